/- Swept pools: mathematics. -/
import Derived.Test.YtoobkajilbmdhaaWtA
namespace Go.Proofs.Ytoobkajilbmdhaa
open Go.RowKit
set_option linter.unusedVariables false

theorem bools_eq {M N : List Bool} (hl : M.length = N.length) (h : ∀ j, M.getD j false = true ↔ N.getD j false = true) : M = N := by
  apply List.ext_getElem hl
  intro j h1 h2
  have := h j
  simp only [List.getD, List.getElem?_eq_getElem h1, List.getElem?_eq_getElem h2, Option.getD_some] at this
  exact Bool.eq_iff_iff.2 this
theorem needA_nil {l : List Nd} (hr : poolRight l = true) : needA l [] = List.replicate l.length false := by
  refine bools_eq (by rw [needA_len]; simp) fun j => ?_
  rw [needA_iff hr (by simp) j, false_getD]
  simp
/-- One root more is marked. -/
theorem mark_next {l : List Nd} (hr : poolRight l = true) {rs : List Nat} (h : ∀ r ∈ rs, r < l.length) {r : Nat} (hrl : r < l.length) {M' : List Bool} (hm : MarkP l (needA l rs) M' r) : M' = needA l (rs ++ [r]) := by
  have h2 : ∀ q ∈ rs ++ [r], q < l.length := by
    intro q hq
    rcases List.mem_append.1 hq with h1 | h1
    · exact h q h1
    · simp only [List.mem_singleton] at h1; rw [h1]; exact hrl
  refine bools_eq (by rw [hm.len, needA_len, needA_len]) fun j => ?_
  rw [needA_iff hr h2 j]
  constructor
  · intro hj
    cases hb : (needA l rs).getD j false
    · exact ⟨r, by simp, hm.only j hj hb⟩
    · obtain ⟨q, hq, hR⟩ := (needA_iff hr h j).1 hb
      exact ⟨q, by simp [hq], hR⟩
  · rintro ⟨q, hq, hR⟩
    have start : M'.getD q false = true := by
      rcases List.mem_append.1 hq with h1 | h1
      · exact hm.mono q ((needA_iff hr h q).2 ⟨q, h1, .here⟩)
      · simp only [List.mem_singleton] at h1; rw [h1]; exact hm.self
    refine hR (fun i => M'.getD i false = true) start fun i p hi hil hs hp => ?_
    cases hb : (needA l rs).getD i false
    · exact hm.closed i hil hi hb hs p hp
    · obtain ⟨u, hu, hRu⟩ := (needA_iff hr h i).1 hb
      exact hm.mono p ((needA_iff hr h p).2 ⟨u, hu, hRu.step hil hs hp⟩)

/-- A node by its new numbers. -/
def newN (T : List Int) (n : Nd) : Nd := if leafN n then n else ⟨-1, T.getD n.a.toNat 0, T.getD n.b.toNat 0, T.getD n.c.toNat 0, T.getD n.d.toNat 0⟩
/-- Of the first k nodes: what is left, and the new numbers. -/
def sweepTo (l : List Nd) (M : List Bool) : Nat → List Nd × List Int
  | 0 => ([], List.replicate l.length 0)
  | k + 1 => if M.getD k false then ((sweepTo l M k).1 ++ [newN (sweepTo l M k).2 (ndAt l k)], (sweepTo l M k).2.set k ((sweepTo l M k).1.length : Int)) else sweepTo l M k
theorem sweepTo_len (l : List Nd) (M : List Bool) : ∀ k, (sweepTo l M k).1.length ≤ k ∧ (sweepTo l M k).2.length = l.length
  | 0 => by simp [sweepTo]
  | k + 1 => by
    have ih := sweepTo_len l M k
    rw [sweepTo]
    split
    · simp; omega
    · omega
/-- What Sweep answers: code, nodes, roots. -/
def sweepO (l : List Nd) (rs : List Int) : Int × List Nd × List Int :=
  if 400 < rs.length then (2, [], [])
  else if poolRight l && decide (rs.length ≤ 14) then
    (if rs.all (fun r => thereN l.length r) then
      (0, (sweepTo l (needA l (rs.map Int.toNat)) l.length).1, rs.map fun r => (sweepTo l (needA l (rs.map Int.toNat)) l.length).2.getD r.toNat 0)
    else (6, [], []))
  else (1, [], [])
theorem sweepO_len {l : List Nd} (rs : List Int) : (sweepO l rs).2.1.length ≤ 200 ∧ (sweepO l rs).2.2.length ≤ 14 := by
  unfold sweepO
  split
  · simp
  · split
    · next h =>
      simp only [Bool.and_eq_true, decide_eq_true_eq] at h
      have hl := pool_len h.1
      split
      · have := (sweepTo_len l (needA l (rs.map Int.toNat)) l.length).1
        simp
        omega
      · simp
    · simp
end Go.Proofs.Ytoobkajilbmdhaa
