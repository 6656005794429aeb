/- Which nodes a node needs, and how many: mathematics. -/
import Derived.Test.YtoobkajilbmdhaaHt
namespace Go.Proofs.Ytoobkajilbmdhaa
open Go.RowKit
set_option linter.unusedVariables false

def qs (n : Nd) : List Nat := [n.a.toNat, n.b.toNat, n.c.toNat, n.d.toNat]
/-- The node i is needed by root. -/
def Rch (l : List Nd) (root i : Nat) : Prop := ∀ P : Nat → Prop, P root → (∀ i q, P i → ∀ hi : i < l.length, leafN l[i] = false → q ∈ qs l[i] → P q) → P i
theorem Rch.here {l : List Nd} {root : Nat} : Rch l root root := fun _ h _ => h
theorem Rch.step {l : List Nd} {root i q : Nat} (h : Rch l root i) (hi : i < l.length) (hs : leafN l[i] = false) (hq : q ∈ qs l[i]) : Rch l root q := fun P h0 hst => hst i q (h P h0 hst) hi hs hq
theorem Rch.trans {l : List Nd} {a b c : Nat} (h : Rch l a b) (k : Rch l b c) : Rch l a c := k (fun j => Rch l a j) h fun _ _ ih hi hs hq => ih.step hi hs hq
theorem qs_lt {l : List Nd} (hr : poolRight l = true) {i q : Nat} (hi : i < l.length) (hs : leafN l[i] = false) (hq : q ∈ qs l[i]) : q < i := by
  obtain ⟨_, h1, h2, h3, h4⟩ := ok_split (right_node hr hi) hs
  simp [qs] at hq
  omega
theorem Rch.le {l : List Nd} (hr : poolRight l = true) {a b : Nat} (h : Rch l a b) : b ≤ a :=
  h (fun j => j ≤ a) (Nat.le_refl _) fun i q ih hi hs hq => by have := qs_lt hr hi hs hq; omega
theorem getD_set (M : List Bool) (q j : Nat) : (M.set q true).getD j false = (if j = q ∧ q < M.length then true else M.getD j false) := by
  simp only [List.getD, List.getElem?_set]
  by_cases h : q = j
  · subst h
    by_cases hq : q < M.length
    · simp [hq]
    · simp [hq]
  · have : ¬ j = q := fun e => h e.symm
    simp [h, this]
theorem getD_set_of {M : List Bool} {q j : Nat} (h : M.getD j false = true) : (M.set q true).getD j false = true := by
  rw [getD_set]; split <;> simp_all
theorem lt_of_getD {M : List Bool} {j : Nat} (h : M.getD j false = true) : j < M.length := by
  apply Classical.byContradiction
  intro hn
  rw [show M.getD j false = false by simp [List.getD, Nat.le_of_not_lt hn]] at h
  cases h
def markQ (M : List Bool) (n : Nd) : List Bool := (((M.set n.a.toNat true).set n.b.toNat true).set n.c.toNat true).set n.d.toNat true
theorem markQ_len (M : List Bool) (n : Nd) : (markQ M n).length = M.length := by simp [markQ]
theorem markQ_iff (M : List Bool) (n : Nd) (h : ∀ q ∈ qs n, q < M.length) (j : Nat) : (markQ M n).getD j false = true ↔ M.getD j false = true ∨ j ∈ qs n := by
  simp only [qs, List.mem_cons, List.not_mem_nil, or_false, forall_eq_or_imp, forall_eq] at h
  obtain ⟨h1, h2, h3, h4⟩ := h
  unfold markQ qs
  simp only [getD_set, List.length_set, h1, h2, h3, h4, and_true, List.mem_cons, List.not_mem_nil, or_false]
  by_cases e1 : j = n.a.toNat <;> by_cases e2 : j = n.b.toNat <;> by_cases e3 : j = n.c.toNat <;> by_cases e4 : j = n.d.toNat <;> simp [e1, e2, e3, e4]
def ndAt (l : List Nd) (i : Nat) : Nd := l.getD i ⟨0, 0, 0, 0, 0⟩
theorem ndAt_eq {l : List Nd} {i : Nat} (h : i < l.length) : ndAt l i = l[i] := by simp [ndAt, List.getD, h]
/-- From i down: whoever is marked marks its quarters. -/
def downP (l : List Nd) : Nat → List Bool → List Bool
  | 0, M => M
  | i + 1, M => downP l i (if M.getD i false && !leafN (ndAt l i) then markQ M (ndAt l i) else M)
theorem downP_len (l : List Nd) : ∀ i M, (downP l i M).length = M.length
  | 0, _ => rfl
  | i + 1, M => by
    rw [downP, downP_len]
    split
    · exact markQ_len _ _
    · rfl
theorem downP_spec {l : List Nd} (hr : poolRight l = true) {root : Nat} (hroot : root < l.length) : ∀ (i : Nat) (M : List Bool), i ≤ root + 1 → M.length = root + 1 → M.getD root false = true → (∀ j, M.getD j false = true → Rch l root j) →
    (∀ j (hj : j < l.length), i ≤ j → M.getD j false = true → leafN l[j] = false → ∀ q ∈ qs l[j], M.getD q false = true) → ∀ j, (downP l i M).getD j false = true ↔ Rch l root j
  | 0, M, _, hlen, h1, h2, h3, j => by
    refine ⟨h2 j, fun h => ?_⟩
    exact h (fun j => M.getD j false = true) h1 fun _ _ ih hi hs hq => h3 _ hi (Nat.zero_le _) ih hs _ hq
  | i + 1, M, hi, hlen, h1, h2, h3, j => by
    have hil : i < l.length := by omega
    rw [downP, ndAt_eq hil]
    by_cases hc : (M.getD i false && !leafN l[i]) = true
    · rw [if_pos hc]
      simp only [Bool.and_eq_true, Bool.not_eq_true'] at hc
      have hq : ∀ q ∈ qs l[i], q < i := fun q hq => qs_lt hr hil hc.2 hq
      have hm := markQ_iff M l[i] (fun q h => by have := hq q h; omega)
      refine downP_spec hr hroot i _ (by omega) (by rw [markQ_len]; exact hlen) ((hm root).2 (.inl h1)) (fun j hj => ?_) (fun j hj hij hmj hs q hqj => ?_) j
      · rcases (hm j).1 hj with h | h
        · exact h2 j h
        · exact (h2 i hc.1).step hil hc.2 h
      · rcases (hm j).1 hmj with h | h
        · by_cases e : j = i
          · subst e; exact (hm q).2 (.inr hqj)
          · exact (hm q).2 (.inl (h3 j hj (by omega) h hs q hqj))
        · have := hq j h; omega
    · rw [if_neg hc]
      refine downP_spec hr hroot i M (by omega) hlen h1 h2 (fun j hj hij hmj hs q hqj => ?_) j
      by_cases e : j = i
      · subst e
        simp only [Bool.and_eq_true, Bool.not_eq_true'] at hc
        exact absurd ⟨hmj, hs⟩ hc
      · exact h3 j hj (by omega) hmj hs q hqj
/-- The marks of what root needs. -/
def needL (l : List Nd) (root : Nat) : List Bool := downP l (root + 1) ((List.replicate (root + 1) false).set root true)
theorem needL_len (l : List Nd) (root : Nat) : (needL l root).length = root + 1 := by rw [needL, downP_len]; simp
theorem start_iff (root j : Nat) : ((List.replicate (root + 1) false).set root true).getD j false = true ↔ j = root := by
  rw [getD_set]
  simp [List.getD, List.getElem?_replicate]
  by_cases h : j = root
  · simp [h]
  · simp [h]; split <;> simp
theorem needL_iff {l : List Nd} (hr : poolRight l = true) {root : Nat} (hroot : root < l.length) (j : Nat) : (needL l root).getD j false = true ↔ Rch l root j := by
  unfold needL
  refine downP_spec hr hroot (root + 1) _ (Nat.le_refl _) (by simp) ((start_iff root root).2 rfl) (fun j hj => ?_) (fun j hj hij hmj => ?_) j
  · rw [(start_iff root j).1 hj]; exact .here
  · have := (start_iff root j).1 hmj; omega
def weightN (l : List Nd) (root : Int) : Int := if poolRight l && thereN l.length root then ((needL l root.toNat).count true : Int) else 0

/-- What marking a node comes to. -/
structure MarkP (l : List Nd) (M M' : List Bool) (node : Nat) : Prop where
  len : M'.length = M.length
  mono : ∀ i, M.getD i false = true → M'.getD i false = true
  self : M'.getD node false = true
  only : ∀ i, M'.getD i false = true → M.getD i false = false → Rch l node i
  closed : ∀ i (hi : i < l.length), M'.getD i false = true → M.getD i false = false → leafN l[i] = false → ∀ q ∈ qs l[i], M'.getD q false = true
theorem MarkP.there {l : List Nd} {M : List Bool} {node : Nat} (h : M.getD node false = true) : MarkP l M M node :=
  ⟨rfl, fun _ h => h, h, fun i h1 h2 => (by rw [h1] at h2; cases h2), fun i _ h1 h2 => (by rw [h1] at h2; cases h2)⟩
theorem MarkP.leaf {l : List Nd} {M : List Bool} {node : Nat} (hn : node < l.length) (hM : M.length = l.length) (hs : leafN l[node] = true) : MarkP l M (M.set node true) node := by
  have hg := getD_set M node
  refine ⟨by simp, fun i h => getD_set_of h, by rw [hg, if_pos ⟨rfl, by omega⟩], fun i h1 h2 => ?_, fun i hi h1 h2 h3 => ?_⟩
  · rw [hg] at h1
    split at h1
    · rename_i h; rw [h.1]; exact .here
    · rw [h1] at h2; cases h2
  · rw [hg] at h1
    split at h1
    · rename_i h
      obtain ⟨rfl, _⟩ := h
      rw [hs] at h3; cases h3
    · rw [h1] at h2; cases h2
theorem MarkP.split {l : List Nd} {M M2 M3 M4 M5 : List Bool} {node : Nat} (hn : node < l.length) (hM : M.length = l.length) (hs : leafN l[node] = false)
    (h2 : MarkP l (M.set node true) M2 l[node].a.toNat) (h3 : MarkP l M2 M3 l[node].b.toNat) (h4 : MarkP l M3 M4 l[node].c.toNat) (h5 : MarkP l M4 M5 l[node].d.toNat) : MarkP l M M5 node := by
  have hg := getD_set M node
  have hqa : ∀ q ∈ qs l[node], Rch l node q := fun q hq => Rch.here.step hn hs hq
  have m25 : ∀ i, M2.getD i false = true → M5.getD i false = true := fun i h => h5.mono i (h4.mono i (h3.mono i h))
  have m35 : ∀ i, M3.getD i false = true → M5.getD i false = true := fun i h => h5.mono i (h4.mono i h)
  have stages : ∀ i, M5.getD i false = true → M.getD i false = false → i = node ∨ (M2.getD i false = true ∧ (M.set node true).getD i false = false) ∨ (M3.getD i false = true ∧ M2.getD i false = false) ∨ (M4.getD i false = true ∧ M3.getD i false = false) ∨ (M5.getD i false = true ∧ M4.getD i false = false) := by
    intro i h1 h0
    by_cases e : i = node
    · exact .inl e
    · right
      have h0' : (M.set node true).getD i false = false := by rw [hg, if_neg (fun h => e h.1)]; exact h0
      cases e2 : M2.getD i false
      · cases e3 : M3.getD i false
        · cases e4 : M4.getD i false
          · exact .inr (.inr (.inr ⟨h1, rfl⟩))
          · exact .inr (.inr (.inl ⟨rfl, rfl⟩))
        · exact .inr (.inl ⟨rfl, rfl⟩)
      · exact .inl ⟨rfl, h0'⟩
  refine ⟨by rw [h5.len, h4.len, h3.len, h2.len]; simp, fun i h => m25 i (h2.mono i (getD_set_of h)), m25 _ (h2.mono _ (by rw [hg, if_pos ⟨rfl, by omega⟩])), fun i h1 h0 => ?_, fun i hi h1 h0 hsi q hq => ?_⟩
  · rcases stages i h1 h0 with rfl | ⟨a, b⟩ | ⟨a, b⟩ | ⟨a, b⟩ | ⟨a, b⟩
    · exact .here
    · exact (hqa _ (by simp [qs])).trans (h2.only i a b)
    · exact (hqa _ (by simp [qs])).trans (h3.only i a b)
    · exact (hqa _ (by simp [qs])).trans (h4.only i a b)
    · exact (hqa _ (by simp [qs])).trans (h5.only i a b)
  · rcases stages i h1 h0 with rfl | ⟨a, b⟩ | ⟨a, b⟩ | ⟨a, b⟩ | ⟨a, b⟩
    · simp only [qs, List.mem_cons, List.not_mem_nil, or_false] at hq
      rcases hq with rfl | rfl | rfl | rfl
      · exact m25 _ h2.self
      · exact m35 _ h3.self
      · exact h5.mono _ h4.self
      · exact h5.self
    · exact m25 _ (h2.closed i hi a b hsi q hq)
    · exact m35 _ (h3.closed i hi a b hsi q hq)
    · exact h5.mono _ (h4.closed i hi a b hsi q hq)
    · exact h5.closed i hi a b hsi q hq
theorem MarkP.all {l : List Nd} {M : List Bool} {n root : Nat} (h : MarkP l (List.replicate n false) M root) (j : Nat) : M.getD j false = true ↔ Rch l root j := by
  have h0 : ∀ i, (List.replicate n false).getD i false = false := fun i => by simp [List.getD, List.getElem?_replicate]; split <;> simp
  refine ⟨fun h1 => h.only j h1 (h0 j), fun hr => ?_⟩
  exact hr (fun j => M.getD j false = true) h.self fun _ _ ih hi hs hq => h.closed _ hi ih (h0 _) hs _ hq
theorem count_same {M N : List Bool} (hl : N.length ≤ M.length) (h : ∀ j, M.getD j false = N.getD j false) : M.count true = N.count true := by
  have e : M = N ++ List.replicate (M.length - N.length) false := by
    apply List.ext_getElem?
    intro j
    have hj := h j
    simp only [List.getD] at hj
    by_cases h1 : j < N.length
    · rw [List.getElem?_append_left h1, List.getElem?_eq_getElem (by omega), List.getElem?_eq_getElem h1]
      simpa [List.getElem?_eq_getElem h1, List.getElem?_eq_getElem (show j < M.length by omega)] using hj
    · rw [List.getElem?_append_right (by omega), List.getElem?_replicate]
      by_cases h2 : j < M.length
      · rw [if_pos (by omega), List.getElem?_eq_getElem h2]
        simpa [List.getElem?_eq_getElem h2, h1] using hj
      · rw [if_neg (by omega)]
        simp [h2]
  rw [e]
  simp [List.count_append, List.count_replicate]
theorem mark_count {l : List Nd} (hr : poolRight l = true) {root : Nat} (hroot : root < l.length) {M : List Bool} (h : MarkP l (List.replicate l.length false) M root) : M.count true = (needL l root).count true := by
  refine count_same (by rw [needL_len, h.len]; simp; omega) fun j => ?_
  rw [Bool.eq_iff_iff, h.all j, needL_iff hr hroot j]
end Go.Proofs.Ytoobkajilbmdhaa
