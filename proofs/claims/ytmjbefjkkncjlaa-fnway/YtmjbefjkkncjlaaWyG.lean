/- Ways in a graph whose steps cost something: what is least is one; how it is come to: the mathematics. -/
import Derived.Test.YtmjbefjkkncjlaaGridA
namespace Go.Proofs.Ytmjbefjkkncjlaa
open Go.RowKit
set_option linter.unusedVariables false

/-- From s one can come to a place by steps that cost so much together. -/
inductive Wk (E : Nat → Nat → Prop) (c : Nat → Nat → Int) (s : Nat) : Nat → Int → Prop
  | here : Wk E c s s 0
  | step {i j : Nat} {x : Int} : Wk E c s i x → E i j → Wk E c s j (x + c i j)
/-- A graph of n places; each step costs 1 to 19. -/
structure Gr (n : Nat) (E : Nat → Nat → Prop) (c : Nat → Nat → Int) : Prop where
  lt : ∀ i j, E i j → i < n ∧ j < n
  low : ∀ i j, E i j → 1 ≤ c i j
  high : ∀ i j, E i j → c i j ≤ 19
def dk (d : List Int) (k : Nat) : Int := d.getD k (-1)
theorem dk_lt {d : List Int} {k : Nat} (h : k < d.length) : dk d k = d[k] := by simp [dk, List.getD, h]
theorem dk_set {d : List Int} {k : Nat} (h : k < d.length) (x : Int) (j : Nat) : dk (d.set k x) j = if k = j then x else dk d j := by
  unfold dk List.getD
  rw [List.getElem?_set]
  split
  · next e => subst e; simp
  · rfl
/-- All that is least: how far each place is from s. -/
structure IsD (n : Nat) (E : Nat → Nat → Prop) (c : Nat → Nat → Int) (s : Nat) (d : List Int) : Prop where
  len : d.length = n
  src : s < n ∧ dk d s = 0
  lab : ∀ k, k < n → dk d k = -1 ∨ (0 ≤ dk d k ∧ Wk E c s k (dk d k))
  rel : ∀ i j, E i j → 0 ≤ dk d i → 0 ≤ dk d j ∧ dk d j ≤ dk d i + c i j
section
variable {n : Nat} {E : Nat → Nat → Prop} {c : Nat → Nat → Int} {s : Nat} {d d' : List Int}
theorem Wk.nonneg (g : Gr n E c) {k : Nat} {x : Int} (h : Wk E c s k x) : 0 ≤ x := by
  induction h with
  | here => omega
  | step _ he ih => have := g.low _ _ he; omega
theorem Wk.lt (g : Gr n E c) (hs : s < n) {k : Nat} {x : Int} (h : Wk E c s k x) : k < n := by
  cases h with
  | here => exact hs
  | step _ he => exact (g.lt _ _ he).2
/-- None is less. -/
theorem IsD.least (h : IsD n E c s d) {k : Nat} {x : Int} (hw : Wk E c s k x) : 0 ≤ dk d k ∧ dk d k ≤ x := by
  induction hw with
  | here => rw [h.src.2]; omega
  | step _ he ih =>
    have := h.rel _ _ he ih.1
    omega
theorem IsD.one (g : Gr n E c) (h : IsD n E c s d) (h' : IsD n E c s d') : d = d' := by
  refine List.ext_getElem (h.len.trans h'.len.symm) fun k hk hk' => ?_
  rw [← dk_lt hk, ← dk_lt hk']
  have hn : k < n := h.len ▸ hk
  rcases h.lab k hn with e | ⟨e1, e2⟩
  · rcases h'.lab k hn with f | ⟨f1, f2⟩
    · rw [e, f]
    · have := h.least f2
      omega
  · have h1 := h'.least e2
    rcases h'.lab k hn with f | ⟨f1, f2⟩
    · omega
    · have := h.least f2
      omega
theorem least_int {p : Int → Prop} (h0 : ∀ x, p x → 0 ≤ x) : ∀ (m : Nat), (∃ x, p x ∧ x ≤ m) → ∃ x, p x ∧ ∀ y, p y → x ≤ y
  | 0, ⟨x, hx, hm⟩ => ⟨x, hx, fun y hy => by have := h0 y hy; omega⟩
  | m + 1, ⟨x, hx, hm⟩ => by
    by_cases h : ∃ z, p z ∧ z ≤ m
    · exact least_int h0 m h
    · refine ⟨x, hx, fun y hy => ?_⟩
      by_cases hy2 : y ≤ m
      · exact absurd ⟨y, hy, hy2⟩ h
      · omega
/-- There is such a list. -/
theorem exists_dists (g : Gr n E c) (hs : s < n) : ∃ d, IsD n E c s d := by
  have hv : ∀ k, ∃ v : Int, (v = -1 ∧ ∀ x, ¬ Wk E c s k x) ∨ (Wk E c s k v ∧ ∀ x, Wk E c s k x → v ≤ x) := by
    intro k
    by_cases h : ∃ x, Wk E c s k x
    · obtain ⟨x, hx⟩ := h
      obtain ⟨v, h1, h2⟩ := least_int (p := Wk E c s k) (fun x hx => hx.nonneg g) x.toNat ⟨x, hx, by have := hx.nonneg g; omega⟩
      exact ⟨v, .inr ⟨h1, h2⟩⟩
    · exact ⟨-1, .inl ⟨rfl, fun x hx => h ⟨x, hx⟩⟩⟩
  obtain ⟨f, hf⟩ : ∃ f : Nat → Int, ∀ k, (f k = -1 ∧ ∀ x, ¬ Wk E c s k x) ∨ (Wk E c s k (f k) ∧ ∀ x, Wk E c s k x → f k ≤ x) := ⟨fun k => Classical.choose (hv k), fun k => Classical.choose_spec (hv k)⟩
  have hd : ∀ k, k < n → dk ((List.range n).map f) k = f k := by
    intro k hk
    rw [dk_lt (by simpa using hk)]
    simp
  refine ⟨(List.range n).map f, by simp, ⟨hs, ?_⟩, ?_, ?_⟩
  · rw [hd s hs]
    rcases hf s with h | h
    · exact absurd Wk.here (h.2 0)
    · have h1 := h.2 0 Wk.here
      have h2 := h.1.nonneg g
      omega
  · intro k hk
    rw [hd k hk]
    rcases hf k with h | h
    · exact .inl h.1
    · exact .inr ⟨h.1.nonneg g, h.1⟩
  · intro i j he hi
    obtain ⟨hin, hjn⟩ := g.lt i j he
    rw [hd i hin] at hi ⊢
    rw [hd j hjn]
    rcases hf i with h | h
    · omega
    · have hw := Wk.step h.1 he
      rcases hf j with k | k
      · exact absurd hw (k.2 _)
      · exact ⟨k.1.nonneg g, k.2 _ hw⟩

/-- How many places are come to already. -/
def seen (d : List Int) : Nat := d.countP (fun x => decide (0 ≤ x))
/-- What is still to be gained. -/
def gain (m : Nat) : List Int → Nat
  | [] => 0
  | x :: xs => (if 0 ≤ x then x.toNat else m) + gain m xs
theorem seen_le (d : List Int) : seen d ≤ d.length := List.countP_le_length
theorem seen_set : ∀ (d : List Int) (k : Nat) (x : Int), k < d.length → 0 ≤ x → seen (d.set k x) = seen d + (if 0 ≤ dk d k then 0 else 1)
  | [], k, x, h, _ => by simp at h
  | y :: ys, 0, x, _, hx => by
    simp only [seen, List.set_cons_zero, List.countP_cons, dk, List.getD_cons_zero, decide_eq_true_eq]
    by_cases hy : 0 ≤ y <;> simp [hx, hy]
  | y :: ys, k + 1, x, h, hx => by
    have ih := seen_set ys k x (by simpa using h) hx
    have e : dk (y :: ys) (k + 1) = dk ys k := rfl
    rw [e, List.set_cons_succ]
    simp only [seen, List.countP_cons] at ih ⊢
    omega
theorem gain_set (m : Nat) : ∀ (d : List Int) (k : Nat) (x : Int), k < d.length → 0 ≤ x → gain m (d.set k x) + (if 0 ≤ dk d k then (dk d k).toNat else m) = gain m d + x.toNat
  | [], k, x, h, _ => by simp at h
  | y :: ys, 0, x, _, hx => by
    simp only [gain, List.set_cons_zero, dk, List.getD_cons_zero, if_pos hx]
    omega
  | y :: ys, k + 1, x, h, hx => by
    have ih := gain_set m ys k x (by simpa using h) hx
    have e : dk (y :: ys) (k + 1) = dk ys k := rfl
    rw [e, List.set_cons_succ]
    simp only [gain] at ih ⊢
    omega
theorem gain_le (m : Nat) : ∀ d : List Int, (∀ x ∈ d, x ≤ m) → gain m d ≤ d.length * m
  | [], _ => by simp [gain]
  | x :: xs, h => by
    have ih := gain_le m xs (fun y hy => h y (by simp [hy]))
    have hx := h x (by simp)
    simp only [gain, List.length_cons, Nat.add_mul]
    split <;> omega
/-- On the way: a is being looked at, of its neighbours those in done have been. -/
structure OnW (n : Nat) (E : Nat → Nat → Prop) (c : Nat → Nat → Int) (s a : Nat) (done : Nat → Prop) (d : List Int) (q : List Nat) : Prop where
  len : d.length = n
  src : s < n ∧ dk d s = 0
  lab : ∀ k, k < n → dk d k = -1 ∨ (0 ≤ dk d k ∧ Wk E c s k (dk d k))
  que : ∀ k ∈ q, k < n ∧ 0 ≤ dk d k
  rel : ∀ i j, E i j → 0 ≤ dk d i → i ∉ q → (i = a → done j) → 0 ≤ dk d j ∧ dk d j ≤ dk d i + c i j
  at_ : a < n ∧ 0 ≤ dk d a
  top : ∀ k, dk d k ≤ 19 * (seen d : Int) - 19
  few : 2 * gain (19 * n) d + q.length ≤ 38 * (n * n) + 1
/-- What is left to do. -/
def toDo (n : Nat) (d : List Int) (q : List Nat) : Nat := 2 * gain (19 * n) d + q.length
theorem OnW.bound {a : Nat} {done : Nat → Prop} {q : List Nat} (h : OnW n E c s a done d q) (k : Nat) : dk d k ≤ 19 * (n : Int) - 19 := by
  have h1 := h.top k
  have h2 := seen_le d
  have h3 := h.len
  omega
/-- Nothing is gained by going to b. -/
theorem OnW.skip {a b : Nat} {done : Nat → Prop} {q : List Nat} (h : OnW n E c s a done d q) (hb : 0 ≤ dk d b) (hle : dk d b ≤ dk d a + c a b) : OnW n E c s a (fun j => done j ∨ j = b) d q := by
  refine ⟨h.len, h.src, h.lab, h.que, fun i j he hi hq hd => ?_, h.at_, h.top, h.few⟩
  by_cases hj : j = b
  · by_cases hia : i = a
    · subst hj hia; exact ⟨hb, hle⟩
    · exact h.rel i j he hi hq (fun e => absurd e hia)
  · exact h.rel i j he hi hq (fun e => by rcases hd e with k | k; exact k; exact absurd k hj)
/-- b is nearer by a. -/
theorem OnW.go (g : Gr n E c) {a b : Nat} {done : Nat → Prop} {q : List Nat} (h : OnW n E c s a done d q) (he : E a b) (hab : a ≠ b) (hlt : dk d b < 0 ∨ dk d a + c a b < dk d b) : OnW n E c s a (fun j => done j ∨ j = b) (d.set b (dk d a + c a b)) (q ++ [b]) ∧ toDo n (d.set b (dk d a + c a b)) (q ++ [b]) < toDo n d q := by
  obtain ⟨ha, ha0⟩ := h.at_
  have hbn := (g.lt a b he).2
  have hbl : b < d.length := by rw [h.len]; exact hbn
  have hc1 := g.low a b he
  have hc2 := g.high a b he
  have hx : 0 ≤ dk d a + c a b := by omega
  have hS : ∀ j, dk (d.set b (dk d a + c a b)) j = if b = j then dk d a + c a b else dk d j := dk_set hbl _
  have hbnd := h.bound b
  have hbna := h.bound a
  have hwa : Wk E c s a (dk d a) := by
    rcases h.lab a ha with e | e
    · omega
    · exact e.2
  have hseen := seen_set d b (dk d a + c a b) hbl hx
  have hgain := gain_set (19 * n) d b (dk d a + c a b) hbl hx
  have hdec : gain (19 * n) (d.set b (dk d a + c a b)) + 1 ≤ gain (19 * n) d := by
    rcases hlt with h1 | h1
    · have hs1 := seen_le (d.set b (dk d a + c a b))
      rw [hseen, if_neg (by omega), List.length_set, h.len] at hs1
      have hta := h.top a
      rw [if_neg (by omega)] at hgain
      omega
    · rw [if_pos (by omega)] at hgain
      omega
  have hsb : s ≠ b := by
    rintro rfl
    rw [h.src.2] at hlt
    omega
  refine ⟨⟨by rw [List.length_set]; exact h.len, ⟨h.src.1, by rw [hS, if_neg (fun e => hsb e.symm)]; exact h.src.2⟩, fun k hk => ?_, fun k hk => ?_, fun i j hij hi hq hd => ?_, ⟨ha, by rw [hS, if_neg (fun e => hab e.symm)]; exact ha0⟩, fun k => ?_, ?_⟩, ?_⟩
  · rw [hS]
    split
    · next e => subst e; exact .inr ⟨hx, hwa.step he⟩
    · exact h.lab k hk
  · rw [hS]
    rcases List.mem_append.1 hk with hk | hk
    · have := h.que k hk
      split
      · exact ⟨this.1, hx⟩
      · exact this
    · simp only [List.mem_singleton] at hk
      subst hk
      rw [if_pos rfl]
      exact ⟨hbn, hx⟩
  · have hqi : i ∉ q := fun e => hq (List.mem_append_left _ e)
    have hib : i ≠ b := fun e => hq (by rw [e]; simp)
    rw [hS i, if_neg (fun e => hib e.symm)] at hi ⊢
    rw [hS j]
    by_cases hjb : b = j
    · rw [if_pos hjb]
      subst hjb
      refine ⟨hx, ?_⟩
      by_cases hia : i = a
      · subst hia; omega
      · have := h.rel i b hij hi hqi (fun e => absurd e hia)
        omega
    · rw [if_neg hjb]
      exact h.rel i j hij hi hqi (fun e => by rcases hd e with k | k; exact k; exact absurd k.symm hjb)
  · have hk := h.top k
    have hta := h.top a
    have htb := h.top b
    rcases hlt with h1 | h1
    · have hs1 : seen (d.set b (dk d a + c a b)) = seen d + 1 := by rw [hseen, if_neg (by omega)]
      rw [hS k, hs1]
      split <;> omega
    · have hs1 : seen (d.set b (dk d a + c a b)) = seen d := by rw [hseen, if_pos (by omega)]; rfl
      rw [hS k, hs1]
      split <;> omega
  · have := h.few
    simp only [List.length_append, List.length_singleton]
    omega
  · unfold toDo
    simp only [List.length_append, List.length_singleton]
    omega
/-- All neighbours of a have been looked at: the next one. -/
theorem OnW.next {a b : Nat} {done : Nat → Prop} {q : List Nat} (h : OnW n E c s a done d (b :: q)) (hd : ∀ j, E a j → done j) : OnW n E c s b (fun _ => False) d q ∧ toDo n d q < toDo n d (b :: q) := by
  refine ⟨⟨h.len, h.src, h.lab, fun k hk => h.que k (by simp [hk]), fun i j he hi hq hb => ?_, h.que b (by simp), h.top, by have := h.few; simp at this; omega⟩, by simp [toDo]⟩
  have hib : i ≠ b := fun e => hb e
  exact h.rel i j he hi (by simp [hib, hq]) (fun e => by subst e; exact hd j he)
/-- Nothing is left. -/
theorem OnW.done {a : Nat} {done : Nat → Prop} (h : OnW n E c s a done d []) (hd : ∀ j, E a j → done j) : IsD n E c s d :=
  ⟨h.len, h.src, h.lab, fun i j he hi => h.rel i j he hi (by simp) (fun e => by subst e; exact hd j he)⟩
theorem dk_rep (n k : Nat) : dk (List.replicate n (-1)) k = -1 := by
  unfold dk List.getD
  rw [List.getElem?_replicate]
  split <;> rfl
theorem gain_rep (m : Nat) : ∀ n : Nat, gain m (List.replicate n (-1)) = n * m
  | 0 => by simp [gain]
  | n + 1 => by
    rw [List.replicate_succ, gain, gain_rep m n, Nat.add_mul]
    simp
    omega
theorem seen_rep : ∀ n : Nat, seen (List.replicate n (-1)) = 0
  | 0 => rfl
  | n + 1 => by
    have := seen_rep n
    simp only [seen, List.replicate_succ, List.countP_cons] at this ⊢
    rw [this]
    rfl
/-- It begins: s alone, 0 away. -/
theorem OnW.start (g : Gr n E c) (hs : s < n) : OnW n E c s s (fun _ => True) ((List.replicate n (-1)).set s 0) [s] := by
  have hl : s < (List.replicate n (-1 : Int)).length := by simpa using hs
  have hS : ∀ j, dk ((List.replicate n (-1)).set s 0) j = if s = j then 0 else -1 := by
    intro j
    rw [dk_set hl, dk_rep]
  have hgain := gain_set (19 * n) (List.replicate n (-1)) s 0 hl (by omega)
  have hseen := seen_set (List.replicate n (-1)) s 0 hl (by omega)
  rw [dk_rep, if_neg (by omega)] at hgain hseen
  rw [gain_rep] at hgain
  rw [seen_rep] at hseen
  refine ⟨by simp, ⟨hs, by rw [hS, if_pos rfl]⟩, fun k hk => ?_, fun k hk => ?_, fun i j he hi hq hd => ?_, ⟨hs, by rw [hS, if_pos rfl]; omega⟩, fun k => ?_, ?_⟩
  · rw [hS]
    split
    · next e => subst e; exact .inr ⟨by omega, Wk.here⟩
    · exact .inl rfl
  · simp only [List.mem_singleton] at hk
    subst hk
    rw [hS, if_pos rfl]
    exact ⟨hs, by omega⟩
  · rw [hS] at hi
    split at hi
    · next e => subst e; simp at hq
    · omega
  · rw [hS, hseen]
    split <;> omega
  · simp only [List.length_singleton]
    have e : n * (19 * n) = 19 * (n * n) := by rw [Nat.mul_left_comm]
    omega
end
end Go.Proofs.Ytmjbefjkkncjlaa
