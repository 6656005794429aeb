/- A map put into a pool: mathematics. -/
import Derived.Test.YtoobkajilbmdhaaHt
import Derived.Test.YtoobkajilbmdhaaPgP
namespace Go.Proofs.Ytoobkajilbmdhaa
open Go.RowKit
set_option linter.unusedVariables false

/-- A node put into a pool, if it is not there; its place. -/
def addN (l : List Nd) (x : Nd) : List Nd × Nat := match l.findIdx? (fun y => y == x) with | some k => (l, k) | none => (l ++ [x], l.length)
def leafOfT (t : Int) : Nd := ⟨t, 0, 0, 0, 0⟩
theorem findN_some {l : List Nd} {x : Nd} {k : Nat} (h : l.findIdx? (fun y => y == x) = some k) : findN l x = k := by simp [findN, h]
theorem findN_nil {l : List Nd} {x : Nd} (h : l.findIdx? (fun y => y == x) = none) : findN l x = -1 := by simp [findN, h]
theorem addN_pre (l : List Nd) (x : Nd) : ∃ t, (addN l x).1 = l ++ t := by
  unfold addN
  split
  · exact ⟨[], by simp⟩
  · exact ⟨[x], rfl⟩
theorem addN_at (l : List Nd) (x : Nd) : (addN l x).1[(addN l x).2]? = some x := by
  unfold addN
  split
  · rename_i k h
    obtain ⟨hk, h1, _⟩ := List.findIdx?_eq_some_iff_getElem.1 h
    simp only [beq_iff_eq] at h1
    show l[k]? = some x
    rw [List.getElem?_eq_getElem hk, h1]
  · show (l ++ [x])[l.length]? = some x
    simp
theorem addN_len (l : List Nd) (x : Nd) : (addN l x).1.length ≤ l.length + 1 := by
  unfold addN
  split <;> simp
/-- Once it is there it is not put again. -/
theorem addN_again (l : List Nd) (x : Nd) : addN (addN l x).1 x = addN l x := by
  have key : ∀ l : List Nd, l.findIdx? (fun y => y == x) = none → (l ++ [x]).findIdx? (fun y => y == x) = some l.length := by
    intro l h
    rw [List.findIdx?_append, h]
    simp
  unfold addN
  cases h : l.findIdx? (fun y => y == x) with
  | some k => simp only [h]
  | none => simp only [key l h]

/-- All of the square is one tile. -/
def uni (T : Nat → Nat → Int) (x y n : Nat) : Prop := ∀ i j, i < n → j < n → T (x + i) (y + j) = T x y
theorem uni_one (T : Nat → Nat → Int) (x y : Nat) : uni T x y 1 := fun i j hi hj => by
  obtain rfl : i = 0 := by omega
  obtain rfl : j = 0 := by omega
  rfl
def uniB (T : Nat → Nat → Int) (x y n : Nat) : Bool := (List.range n).all fun j => (List.range n).all fun i => T (x + i) (y + j) == T x y
theorem uniB_iff (T : Nat → Nat → Int) (x y n : Nat) : uniB T x y n = true ↔ uni T x y n := by
  simp only [uniB, List.all_eq_true, List.mem_range, beq_iff_eq, uni]
  exact ⟨fun h i j hi hj => h j hj i hi, fun h j hj i hi => h i j hi hj⟩
/-- The model's way. -/
def msq (T : Nat → Nat → Int) : Nat → Nat → Nat → List Nd → List Nd × Nat
  | 0, x, y, l => addN l (leafOfT (T x y))
  | d + 1, x, y, l =>
    if uniB T x y (2 ^ (d + 1)) then addN l (leafOfT (T x y)) else
    let a := msq T d x y l
    let b := msq T d (x + 2 ^ d) y a.1
    let c := msq T d x (y + 2 ^ d) b.1
    let e := msq T d (x + 2 ^ d) (y + 2 ^ d) c.1
    addN e.1 ⟨-1, a.2, b.2, c.2, e.2⟩
/-- The program's way. -/
def psq (T : Nat → Nat → Int) : Nat → Nat → Nat → List Nd → List Nd × Nat
  | 0, x, y, l => addN l (leafOfT (T x y))
  | d + 1, x, y, l =>
    let a := psq T d x y l
    let b := psq T d (x + 2 ^ d) y a.1
    let c := psq T d x (y + 2 ^ d) b.1
    let e := psq T d (x + 2 ^ d) (y + 2 ^ d) c.1
    if oneL e.1 a.2 b.2 c.2 e.2 then (e.1, a.2) else addN e.1 ⟨-1, a.2, b.2, c.2, e.2⟩
theorem msq_uni {T : Nat → Nat → Int} {d x y : Nat} (h : uni T x y (2 ^ d)) (l : List Nd) : msq T d x y l = addN l (leafOfT (T x y)) := by
  cases d with
  | zero => rfl
  | succ d => rw [msq, if_pos ((uniB_iff _ _ _ _).2 h)]
theorem pre_trans {a b c : List Nd} (h : ∃ t, b = a ++ t) (k : ∃ t, c = b ++ t) : ∃ t, c = a ++ t := by
  obtain ⟨t, rfl⟩ := h
  obtain ⟨s, rfl⟩ := k
  exact ⟨t ++ s, by rw [List.append_assoc]⟩
theorem msq_pre (T : Nat → Nat → Int) : ∀ (d x y : Nat) (l : List Nd), ∃ t, (msq T d x y l).1 = l ++ t
  | 0, x, y, l => addN_pre _ _
  | d + 1, x, y, l => by
    rw [msq]
    split
    · exact addN_pre _ _
    · exact pre_trans (pre_trans (pre_trans (pre_trans (msq_pre T d x y l) (msq_pre T d _ _ _)) (msq_pre T d _ _ _)) (msq_pre T d _ _ _)) (addN_pre _ _)
/-- What stands at the place that is told. -/
theorem msq_at (T : Nat → Nat → Int) : ∀ (d x y : Nat) (l : List Nd), ∃ n, (msq T d x y l).1[(msq T d x y l).2]? = some n ∧ ((uni T x y (2 ^ d) ∧ n = leafOfT (T x y)) ∨ (¬ uni T x y (2 ^ d) ∧ n.tile = -1))
  | 0, x, y, l => ⟨_, addN_at _ _, .inl ⟨uni_one T x y, rfl⟩⟩
  | d + 1, x, y, l => by
    rw [msq]
    by_cases hu : uniB T x y (2 ^ (d + 1)) = true
    · rw [if_pos hu]
      exact ⟨_, addN_at _ _, .inl ⟨(uniB_iff _ _ _ _).1 hu, rfl⟩⟩
    · rw [if_neg hu]
      exact ⟨_, addN_at _ _, .inr ⟨fun h => hu ((uniB_iff _ _ _ _).2 h), rfl⟩⟩
theorem uni_sub {T : Nat → Nat → Int} {x y h : Nat} (hu : uni T x y (2 * h)) (hh : 0 < h) (dx dy : Nat) (hx : dx = 0 ∨ dx = h) (hy : dy = 0 ∨ dy = h) : uni T (x + dx) (y + dy) h ∧ T (x + dx) (y + dy) = T x y := by
  have h1 : T (x + dx) (y + dy) = T x y := hu dx dy (by omega) (by omega)
  refine ⟨fun i j hi hj => ?_, h1⟩
  rw [h1, Nat.add_assoc, Nat.add_assoc]
  exact hu (dx + i) (dy + j) (by omega) (by omega)
theorem uni_join {T : Nat → Nat → Int} {x y h : Nat} (h1 : uni T x y h) (h2 : uni T (x + h) y h) (h3 : uni T x (y + h) h) (h4 : uni T (x + h) (y + h) h) (e2 : T (x + h) y = T x y) (e3 : T x (y + h) = T x y) (e4 : T (x + h) (y + h) = T x y) : uni T x y (2 * h) := by
  intro i j hi hj
  by_cases a : i < h
  · by_cases b : j < h
    · exact h1 i j a b
    · have := h3 i (j - h) a (by omega)
      rw [e3, Nat.add_assoc, show h + (j - h) = j by omega] at this
      exact this
  · by_cases b : j < h
    · have := h2 (i - h) j (by omega) b
      rw [e2, Nat.add_assoc, show h + (i - h) = i by omega] at this
      exact this
    · have := h4 (i - h) (j - h) (by omega) (by omega)
      rw [e4, Nat.add_assoc, Nat.add_assoc, show h + (i - h) = i by omega, show h + (j - h) = j by omega] at this
      exact this
theorem at_pre {l l' : List Nd} (h : ∃ t, l' = l ++ t) {k : Nat} {n : Nd} (hk : l[k]? = some n) : l'[k]? = some n := by
  obtain ⟨t, rfl⟩ := h
  obtain ⟨hlt, _⟩ := List.getElem?_eq_some_iff.1 hk
  rw [List.getElem?_append_left hlt]
  exact hk
theorem oneL_iff (l : List Nd) (a b c e : Nat) : oneL l a b c e = true ↔ a = b ∧ a = c ∧ a = e ∧ isSp (l.getD a ⟨0, 0, 0, 0, 0⟩) = false := by
  simp only [oneL, Bool.and_eq_true, beq_iff_eq, Bool.not_eq_true', Int.toNat_natCast]
  constructor
  · rintro ⟨⟨⟨h1, h2⟩, h3⟩, h4⟩
    exact ⟨by omega, by omega, by omega, h4⟩
  · rintro ⟨h1, h2, h3, h4⟩
    exact ⟨⟨⟨by omega, by omega⟩, by omega⟩, h4⟩
/-- Both ways are one, where no tile is -1. -/
theorem psq_msq (T : Nat → Nat → Int) (hT : ∀ x y, T x y ≠ -1) : ∀ (d x y : Nat) (l : List Nd), psq T d x y l = msq T d x y l
  | 0, x, y, l => rfl
  | d + 1, x, y, l => by
    have ih := psq_msq T hT d
    have hh : 0 < 2 ^ d := Nat.pos_of_ne_zero (by simp)
    have e2 : 2 ^ (d + 1) = 2 * 2 ^ d := by rw [Nat.pow_succ, Nat.mul_comm]
    rw [psq, msq]
    simp only [ih]
    by_cases hu : uni T x y (2 ^ (d + 1))
    · rw [if_pos ((uniB_iff _ _ _ _).2 hu)]
      rw [e2] at hu
      obtain ⟨u1, t1⟩ := uni_sub hu hh 0 0 (.inl rfl) (.inl rfl)
      obtain ⟨u2, t2⟩ := uni_sub hu hh (2 ^ d) 0 (.inr rfl) (.inl rfl)
      obtain ⟨u3, t3⟩ := uni_sub hu hh 0 (2 ^ d) (.inl rfl) (.inr rfl)
      obtain ⟨u4, t4⟩ := uni_sub hu hh (2 ^ d) (2 ^ d) (.inr rfl) (.inr rfl)
      simp only [Nat.add_zero] at u1 u2 u3 u4 t2 t3 t4
      rw [msq_uni u1, msq_uni u2, msq_uni u3, msq_uni u4, t2, t3, t4, addN_again, addN_again, addN_again, if_pos]
      rw [oneL_iff]
      refine ⟨rfl, rfl, rfl, ?_⟩
      rw [show (addN l (leafOfT (T x y))).1.getD (addN l (leafOfT (T x y))).2 ⟨0, 0, 0, 0, 0⟩ = leafOfT (T x y) by simp [List.getD, addN_at]]
      simp [isSp, leafOfT, hT]
    · rw [if_neg (fun h => hu ((uniB_iff _ _ _ _).1 h)), if_neg]
      rw [oneL_iff]
      rintro ⟨hab, hac, hae, hns⟩
      obtain ⟨n1, p1, q1⟩ := msq_at T d x y l
      obtain ⟨n2, p2, q2⟩ := msq_at T d (x + 2 ^ d) y (msq T d x y l).1
      obtain ⟨n3, p3, q3⟩ := msq_at T d x (y + 2 ^ d) (msq T d (x + 2 ^ d) y (msq T d x y l).1).1
      obtain ⟨n4, p4, q4⟩ := msq_at T d (x + 2 ^ d) (y + 2 ^ d) (msq T d x (y + 2 ^ d) (msq T d (x + 2 ^ d) y (msq T d x y l).1).1).1
      have r3 := at_pre (msq_pre T d (x + 2 ^ d) (y + 2 ^ d) _) p3
      have r2 := at_pre (msq_pre T d (x + 2 ^ d) (y + 2 ^ d) _) (at_pre (msq_pre T d x (y + 2 ^ d) _) p2)
      have r1 := at_pre (msq_pre T d (x + 2 ^ d) (y + 2 ^ d) _) (at_pre (msq_pre T d x (y + 2 ^ d) _) (at_pre (msq_pre T d (x + 2 ^ d) y _) p1))
      generalize (msq T d (x + 2 ^ d) (y + 2 ^ d) (msq T d x (y + 2 ^ d) (msq T d (x + 2 ^ d) y (msq T d x y l).1).1).1).1 = L at *
      rw [← hab] at r2
      rw [← hac] at r3
      rw [← hae] at p4
      have f2 : n2 = n1 := by rw [r1] at r2; exact (Option.some.inj r2).symm
      have f3 : n3 = n1 := by rw [r1] at r3; exact (Option.some.inj r3).symm
      have f4 : n4 = n1 := by rw [r1] at p4; exact (Option.some.inj p4).symm
      rw [f2] at q2
      rw [f3] at q3
      rw [f4] at q4
      have hn : isSp n1 = false := by simpa [List.getD, r1] using hns
      have key : ∀ {A : Prop} {t : Int}, ((A ∧ n1 = leafOfT t) ∨ (¬ A ∧ n1.tile = -1)) → A ∧ n1.tile = t := by
        rintro A t (⟨h, e⟩ | ⟨_, e⟩)
        · exact ⟨h, by rw [e]; rfl⟩
        · simp [isSp, e] at hn
      obtain ⟨u1, t1⟩ := key q1
      obtain ⟨u2, t2⟩ := key q2
      obtain ⟨u3, t3⟩ := key q3
      obtain ⟨u4, t4⟩ := key q4
      exact hu (by rw [e2]; exact uni_join u1 u2 u3 u4 (t2.symm.trans t1) (t3.symm.trans t1) (t4.symm.trans t1))
end Go.Proofs.Ytoobkajilbmdhaa
