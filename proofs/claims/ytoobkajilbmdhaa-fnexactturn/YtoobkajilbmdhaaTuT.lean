/- Turned maps: mathematics. -/
import Derived.Test.YtoobkajilbmdhaaGridM
namespace Go.Proofs.Ytoobkajilbmdhaa
open Go.RowKit
set_option linter.unusedVariables false

/-- Each place of the new list has what stands at another place of the old one. -/
def permL (n : Nat) (f : Nat × Nat → Nat × Nat) (t : List Int) : List Int := (List.range (n * n)).map fun a => t.getD ((f (a % n, a / n)).2 * n + (f (a % n, a / n)).1) 0
def InSq (n : Nat) (p : Nat × Nat) : Prop := p.1 < n ∧ p.2 < n
theorem permL_len (n : Nat) (f : Nat × Nat → Nat × Nat) (t : List Int) : (permL n f t).length = n * n := by simp [permL]
theorem permL_at {n : Nat} {f : Nat × Nat → Nat × Nat} {t : List Int} {a : Nat} (h : a < n * n) : (permL n f t).getD a 0 = t.getD ((f (a % n, a / n)).2 * n + (f (a % n, a / n)).1) 0 := by
  simp [permL, List.getD, h]
theorem at_sq {n : Nat} {p : Nat × Nat} (h : InSq n p) : p.2 * n + p.1 < n * n ∧ (p.2 * n + p.1) % n = p.1 ∧ (p.2 * n + p.1) / n = p.2 := by
  obtain ⟨h1, h2⟩ := h
  have h0 : 0 < n := by omega
  refine ⟨?_, ?_, ?_⟩
  · have h3 : (p.2 + 1) * n ≤ n * n := Nat.mul_le_mul_right n (by omega)
    rw [Nat.add_mul, Nat.one_mul] at h3
    omega
  · rw [Nat.mul_comm, Nat.mul_add_mod]; exact Nat.mod_eq_of_lt h1
  · rw [Nat.mul_comm, Nat.mul_add_div h0, Nat.div_eq_of_lt h1]; rfl
theorem sq_at {n a : Nat} (h : a < n * n) : InSq n (a % n, a / n) ∧ a / n * n + a % n = a := by
  have h0 : 0 < n := by
    rcases Nat.eq_zero_or_pos n with h1 | h1
    · subst h1; simp at h
    · exact h1
  exact ⟨⟨Nat.mod_lt _ h0, (Nat.div_lt_iff_lt_mul h0).2 h⟩, by rw [Nat.mul_comm]; exact Nat.div_add_mod a n⟩
theorem list_getD {t u : List Int} (hl : t.length = u.length) (h : ∀ a, a < t.length → t.getD a 0 = u.getD a 0) : t = u := by
  apply List.ext_getElem hl
  intro a h1 h2
  have := h a h1
  simpa [List.getD, h1, h2] using this
theorem permL_id {n : Nat} {t : List Int} (h : t.length = n * n) : permL n id t = t := by
  refine list_getD (by rw [permL_len, h]) fun a ha => ?_
  rw [permL_len] at ha
  rw [permL_at ha]
  simp only [id, (sq_at ha).2]
theorem permL_congr {n : Nat} {f g : Nat × Nat → Nat × Nat} (t : List Int) (h : ∀ p, InSq n p → f p = g p) : permL n f t = permL n g t := by
  refine list_getD (by simp [permL_len]) fun a ha => ?_
  rw [permL_len] at ha
  rw [permL_at ha, permL_at ha, h _ (sq_at ha).1]
theorem permL_comp {n : Nat} {f g : Nat × Nat → Nat × Nat} (t : List Int) (h : ∀ p, InSq n p → InSq n (f p)) : permL n f (permL n g t) = permL n (fun p => g (f p)) t := by
  refine list_getD (by simp [permL_len]) fun a ha => ?_
  rw [permL_len] at ha
  have h1 := at_sq (h _ (sq_at ha).1)
  rw [permL_at ha, permL_at ha, permL_at h1.1, h1.2.1, h1.2.2]

/-- Whence a quarter's tile comes, and a mirror's. -/
def spin (n : Nat) (p : Nat × Nat) : Nat × Nat := (p.2, n - 1 - p.1)
def flipX (n : Nat) (p : Nat × Nat) : Nat × Nat := (n - 1 - p.1, p.2)
def spins (n : Nat) : Nat → Nat × Nat → Nat × Nat
  | 0, p => p
  | k + 1, p => spins n k (spin n p)
theorem spinIn {n : Nat} {p : Nat × Nat} (h : InSq n p) : InSq n (spin n p) := by obtain ⟨h1, h2⟩ := h; constructor <;> simp [spin] <;> omega
theorem flip_in {n : Nat} {p : Nat × Nat} (h : InSq n p) : InSq n (flipX n p) := by obtain ⟨h1, h2⟩ := h; constructor <;> simp [flipX] <;> omega
theorem spins_in {n : Nat} : ∀ (k : Nat) {p : Nat × Nat}, InSq n p → InSq n (spins n k p)
  | 0, _, h => h
  | k + 1, _, h => spins_in k (spinIn h)
theorem spins_comm {n : Nat} : ∀ (k : Nat) (p : Nat × Nat), spin n (spins n k p) = spins n k (spin n p)
  | 0, _ => rfl
  | k + 1, p => spins_comm k (spin n p)
theorem spins_next (n k : Nat) (p : Nat × Nat) : spins n (k + 1) p = spin n (spins n k p) := (spins_comm k p).symm
def fromT (n how : Nat) (p : Nat × Nat) : Nat × Nat := if 4 ≤ how then flipX n (spins n (how % 4) p) else spins n (how % 4) p
theorem fromT_in {n how : Nat} {p : Nat × Nat} (h : InSq n p) : InSq n (fromT n how p) := by
  unfold fromT
  split
  · exact flip_in (spins_in _ h)
  · exact spins_in _ h
/-- A row that is turned. -/
def turnL (n how : Nat) (t : List Int) : List Int := permL n (fromT n how) t
def rotL (n : Nat) (t : List Int) : List Int := permL n (spin n) t
def flipL (n : Nat) (t : List Int) : List Int := permL n (flipX n) t
def rotsL (n : Nat) : Nat → List Int → List Int
  | 0, t => t
  | k + 1, t => rotsL n k (rotL n t)
theorem rotL_len (n : Nat) (t : List Int) : (rotL n t).length = n * n := permL_len _ _ _
theorem flipL_len (n : Nat) (t : List Int) : (flipL n t).length = n * n := permL_len _ _ _
theorem turnL_len (n how : Nat) (t : List Int) : (turnL n how t).length = n * n := permL_len _ _ _
theorem rots_spins {n : Nat} : ∀ (k : Nat) {t : List Int}, t.length = n * n → rotsL n k t = permL n (spins n k) t
  | 0, t, h => (permL_id h).symm
  | k + 1, t, h => by
    rw [rotsL, rots_spins k (rotL_len n t), rotL, permL_comp t (fun p hp => spins_in k hp)]
    exact permL_congr t fun p _ => spins_comm k p
theorem turn_is {n how : Nat} {t : List Int} (h : t.length = n * n) : rotsL n (how % 4) (if 4 ≤ how then flipL n t else t) = turnL n how t := by
  by_cases h4 : 4 ≤ how
  · rw [if_pos h4, rots_spins _ (flipL_len n t), flipL, permL_comp t (fun p hp => spins_in _ hp)]
    refine permL_congr t fun p _ => ?_
    rw [fromT, if_pos h4]
  · rw [if_neg h4, rots_spins _ h]
    refine permL_congr t fun p _ => ?_
    rw [fromT, if_neg h4]

/-- Of the first k places each stands where it goes to. -/
def PutTo (n k : Nat) (pos : Nat × Nat → Nat) (t u : List Int) : Prop := u.length = n * n ∧ ∀ x y, x < n → y < n → y * n + x < k → u.getD (pos (x, y)) 0 = t.getD (y * n + x) 0
theorem PutTo.start {n : Nat} {pos : Nat × Nat → Nat} {t u : List Int} (h : u.length = n * n) : PutTo n 0 pos t u := ⟨h, fun _ _ _ _ h => by omega⟩
theorem PutTo.step {n x y : Nat} {pos : Nat × Nat → Nat} {t u : List Int} (h : PutTo n (y * n + x) pos t u) (hx : x < n) (hy : y < n) (hp : pos (x, y) < n * n)
    (hi : ∀ x' y', x' < n → y' < n → pos (x', y') = pos (x, y) → x' = x ∧ y' = y) : PutTo n (y * n + x + 1) pos t (u.set (pos (x, y)) (t.getD (y * n + x) 0)) := by
  obtain ⟨hl, h⟩ := h
  refine ⟨by rw [List.length_set]; exact hl, fun x' y' hx' hy' hlt => ?_⟩
  by_cases e : pos (x', y') = pos (x, y)
  · obtain ⟨rfl, rfl⟩ := hi x' y' hx' hy' e
    simp [List.getD, hl, hp]
  · have hne : ¬ y' * n + x' = y * n + x := by
      intro e2
      have a := at_sq (p := (x', y')) ⟨hx', hy'⟩
      have b := at_sq (p := (x, y)) ⟨hx, hy⟩
      simp only at a b
      rw [e2] at a
      exact e (by rw [← a.2.1, ← a.2.2, b.2.1, b.2.2])
    rw [← h x' y' hx' hy' (by omega)]
    have : ¬ pos (x, y) = pos (x', y') := fun h => e h.symm
    simp [List.getD, this]
theorem PutTo.done {n : Nat} {pos : Nat × Nat → Nat} {f : Nat × Nat → Nat × Nat} {t u : List Int} (h : PutTo n (n * n) pos t u) (hf : ∀ p, InSq n p → InSq n (f p)) (hp : ∀ p, InSq n p → pos (f p) = p.2 * n + p.1) : u = permL n f t := by
  obtain ⟨hl, h⟩ := h
  refine list_getD (by rw [permL_len, hl]) fun a ha => ?_
  rw [hl] at ha
  obtain ⟨h1, h2⟩ := sq_at ha
  have h3 := hf _ h1
  have h4 := h _ _ h3.1 h3.2 (at_sq h3).1
  have h5 := hp _ h1
  rw [permL_at ha, ← h4]
  have h6 : pos ((f (a % n, a / n)).1, (f (a % n, a / n)).2) = a := h5.trans h2
  rw [h6]
end Go.Proofs.Ytoobkajilbmdhaa
