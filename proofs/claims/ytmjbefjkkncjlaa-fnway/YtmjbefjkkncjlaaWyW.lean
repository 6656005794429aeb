/- Ways on a map: the way back from a place, step by step: the mathematics. -/
import Derived.Test.YtmjbefjkkncjlaaWyO
namespace Go.Proofs.Ytmjbefjkkncjlaa
open Go.RowKit
set_option linter.unusedVariables false

/-- By q the place p is as near as it is. -/
def prvOk (side : Int) (l d : List Int) (p q : Pl) : Bool := dk d (pn side q.x q.y) + cst l (pn side q.x q.y) (pn side p.x p.y) == dk d (pn side p.x p.y)
/-- The first such one beside p. -/
def prvI (side : Int) (l d : List Int) (p : Pl) : Nat := (bes side l p.x p.y).findIdx (prvOk side l d p)
def prv (side : Int) (l d : List Int) (p : Pl) : Pl := (bes side l p.x p.y).getD (prvI side l d p) p
/-- The way from where the sums begin to p, told from p back. -/
inductive WayTo (side : Int) (l d : List Int) : Pl → List Pl → Prop
  | here {p : Pl} : dk d (pn side p.x p.y) ≤ 0 → WayTo side l d p [p]
  | step {p : Pl} {L : List Pl} : 0 < dk d (pn side p.x p.y) → WayTo side l d (prv side l d p) L → WayTo side l d p (L ++ [p])
section
variable {side : Int} {l d : List Int} {ax ay : Int}
theorem WayTo.back {p : Pl} {L : List Pl} (h : WayTo side l d p L) (hp : 0 < dk d (pn side p.x p.y)) : ∃ L', L = L' ++ [p] ∧ WayTo side l d (prv side l d p) L' := by
  cases h with
  | here h => omega
  | step _ h => exact ⟨_, rfl, h⟩
theorem WayTo.stop {p : Pl} {L : List Pl} (h : WayTo side l d p L) (hp : dk d (pn side p.x p.y) ≤ 0) : L = [p] := by
  cases h with
  | here h => rfl
  | step h _ => omega
theorem WayTo.last {p : Pl} {L : List Pl} (h : WayTo side l d p L) : ∃ L', L = L' ++ [p] := by
  cases h with
  | here h => exact ⟨[], rfl⟩
  | step _ h => exact ⟨_, rfl⟩
/-- A step leads to whatever has a sum above 0 from one that has that less the step. -/
theorem IsD.ahead {n : Nat} {E : Nat → Nat → Prop} {c : Nat → Nat → Int} {s : Nat} {d : List Int} (g : Gr n E c) (h : IsD n E c s d) {k : Nat} (hk : k < n) (hp : 0 < dk d k) : ∃ i, E i k ∧ 0 ≤ dk d i ∧ dk d i + c i k = dk d k := by
  rcases h.lab k hk with e | ⟨_, hw⟩
  · omega
  · generalize hx : dk d k = x at hw
    cases hw with
    | here => omega
    | @step i _ x hw he =>
      have h1 := h.least hw
      have h2 := h.rel _ _ he h1.1
      exact ⟨i, he, h1.1, by omega⟩
theorem prv_idx (hr : gridRight side l = true) (hd : GDist side l ax ay d) {p : Pl} (ho : opn side l p.x p.y = true) (hp : 0 < dk d (pn side p.x p.y)) :
    ∃ hk : prvI side l d p < (bes side l p.x p.y).length, prv side l d p = (bes side l p.x p.y)[prvI side l d p] ∧ prvOk side l d p (bes side l p.x p.y)[prvI side l d p] = true ∧ ∀ j (hj : j < (bes side l p.x p.y).length), j < prvI side l d p → prvOk side l d p (bes side l p.x p.y)[j] = false := by
  obtain ⟨i, he, h0, h1⟩ := IsD.ahead (gr_grid hr) hd (opn_parts hr ho).2.1 hp
  obtain ⟨u, v, h2, h3, rfl⟩ := stp_to hr ho (stp_back he)
  have hm : (⟨u, v⟩ : Pl) ∈ bes side l p.x p.y := bes_mem.2 ⟨h3, h2⟩
  have hok : prvOk side l d p ⟨u, v⟩ = true := by simpa [prvOk] using h1
  have hk : prvI side l d p < (bes side l p.x p.y).length := List.findIdx_lt_length_of_exists ⟨_, hm, hok⟩
  refine ⟨hk, ?_, List.findIdx_getElem (w := hk), fun j hj hlt => ?_⟩
  · simp [prv, List.getD, hk]
  · have := List.not_of_lt_findIdx (p := prvOk side l d p) hlt
    simpa using this
theorem prv_parts (hr : gridRight side l = true) (hd : GDist side l ax ay d) {p : Pl} (ho : opn side l p.x p.y = true) (hp : 0 < dk d (pn side p.x p.y)) :
    opn side l (prv side l d p).x (prv side l d p).y = true ∧ ((prv side l d p).x, (prv side l d p).y) ∈ abt p.x p.y ∧ 0 ≤ dk d (pn side (prv side l d p).x (prv side l d p).y) ∧ dk d (pn side (prv side l d p).x (prv side l d p).y) + cst l (pn side (prv side l d p).x (prv side l d p).y) (pn side p.x p.y) = dk d (pn side p.x p.y) := by
  obtain ⟨hk, e, hok, _⟩ := prv_idx hr hd ho hp
  have hm := bes_mem.1 (List.getElem_mem hk)
  rw [← e] at hm hok
  have hst : Stp side l (pn side p.x p.y) (pn side (prv side l d p).x (prv side l d p).y) := ⟨_, _, _, _, ho, hm.2, hm.1, rfl, rfl⟩
  exact ⟨hm.2, hm.1, (hd.rel _ _ hst (Int.le_of_lt hp)).1, by simpa [prvOk] using hok⟩
theorem prv_less (hr : gridRight side l = true) (hd : GDist side l ax ay d) {p : Pl} (ho : opn side l p.x p.y = true) (hp : 0 < dk d (pn side p.x p.y)) : dk d (pn side (prv side l d p).x (prv side l d p).y) < dk d (pn side p.x p.y) := by
  obtain ⟨h1, h2, h3, h4⟩ := prv_parts hr hd ho hp
  have := (gr_grid hr).low _ _ (show Stp side l (pn side (prv side l d p).x (prv side l d p).y) (pn side p.x p.y) from ⟨_, _, _, _, h1, ho, abt_back h2, rfl, rfl⟩)
  omega
theorem way_ex (hr : gridRight side l = true) (hd : GDist side l ax ay d) : ∀ (n : Nat) (p : Pl), opn side l p.x p.y = true → dk d (pn side p.x p.y) ≤ n → ∃ L, WayTo side l d p L ∧ L.length ≤ n + 1
  | 0, p, _, h => ⟨[p], .here h, by simp⟩
  | n + 1, p, ho, h => by
    by_cases hp : 0 < dk d (pn side p.x p.y)
    · obtain ⟨h1, _⟩ := prv_parts hr hd ho hp
      have h2 := prv_less hr hd ho hp
      obtain ⟨L, hL, hl⟩ := way_ex hr hd n _ h1 (by omega)
      exact ⟨_, .step hp hL, by simp; omega⟩
    · exact ⟨[p], .here (by omega), by simp⟩
/-- Nothing is 0 away but where one is. -/
theorem zero_src (hr : gridRight side l = true) (hd : GDist side l ax ay d) (ha : opn side l ax ay = true) {p : Pl} (ho : opn side l p.x p.y = true) (h0 : dk d (pn side p.x p.y) = 0) : p = ⟨ax, ay⟩ := by
  rcases hd.lab _ (opn_parts hr ho).2.1 with e | ⟨_, hw⟩
  · omega
  · rw [h0] at hw
    have key : ∀ k x, Wk (Stp side l) (cst l) (pn side ax ay) k x → x = 0 → k = pn side ax ay := by
      intro k x hw hx
      cases hw with
      | here => rfl
      | step hw he =>
        have h1 := hw.nonneg (gr_grid hr)
        have h2 := (gr_grid hr).low _ _ he
        omega
    obtain ⟨h1, h2⟩ := pn_one (opn_parts hr ho).1 (opn_parts hr ha).1 (key _ _ hw rfl)
    cases p
    simp_all
/-- How many sums are below x. -/
def lower (d : List Int) (x : Int) : Nat := d.countP (fun v => decide (0 ≤ v) && decide (v < x))
theorem lower_less : ∀ (d : List Int) (x y : Int), y ∈ d → 0 ≤ y → y < x → lower d y + 1 ≤ lower d x
  | [], x, y, h, _, _ => by simp at h
  | v :: d, x, y, h, h0, hlt => by
    have hm : lower d y ≤ lower d x := by
      unfold lower
      refine List.countP_mono_left fun u _ hu => ?_
      simp only [Bool.and_eq_true, decide_eq_true_eq] at hu ⊢
      omega
    unfold lower at hm ⊢
    simp only [List.countP_cons, Bool.and_eq_true, decide_eq_true_eq]
    by_cases hv : v = y
    · subst hv
      rw [if_neg (by omega), if_pos (by omega)]
      omega
    · have ih := lower_less d x y (by simpa [Ne.symm hv] using h) h0 hlt
      unfold lower at ih
      split <;> split <;> omega
theorem way_len (hr : gridRight side l = true) (hd : GDist side l ax ay d) {p : Pl} {L : List Pl} (h : WayTo side l d p L) (ho : opn side l p.x p.y = true) : L.length ≤ lower d (dk d (pn side p.x p.y)) + 1 ∧ dk d (pn side p.x p.y) + 19 ≤ 19 * (L.length : Int) := by
  induction h with
  | here h => exact ⟨by simp, by simp; omega⟩
  | @step p L hp hw ih =>
    obtain ⟨h1, h2, h3, h4⟩ := prv_parts hr hd ho hp
    have hlt := prv_less hr hd ho hp
    obtain ⟨i1, i2⟩ := ih h1
    have hc := (gr_grid hr).high _ _ (show Stp side l (pn side (prv side l d p).x (prv side l d p).y) (pn side p.x p.y) from ⟨_, _, _, _, h1, ho, abt_back h2, rfl, rfl⟩)
    have hk := (opn_parts hr h1).2.1
    rw [← hd.len] at hk
    have hm : dk d (pn side (prv side l d p).x (prv side l d p).y) ∈ d := by rw [dk_lt hk]; exact List.getElem_mem hk
    have := lower_less d _ _ hm h3 hlt
    simp only [List.length_append, List.length_singleton]
    constructor <;> omega
/-- No way is long, no sum great. -/
theorem way_small (hr : gridRight side l = true) (hd : GDist side l ax ay d) {p : Pl} {L : List Pl} (h : WayTo side l d p L) (ho : opn side l p.x p.y = true) : L.length ≤ 65 ∧ dk d (pn side p.x p.y) ≤ 1300 := by
  obtain ⟨h1, h2⟩ := way_len hr hd h ho
  have h3 : lower d (dk d (pn side p.x p.y)) ≤ d.length := List.countP_le_length
  have h4 := hd.len
  have h5 := right_len hr
  constructor <;> omega
theorem way_any (hr : gridRight side l = true) (hd : GDist side l ax ay d) {p : Pl} (ho : opn side l p.x p.y = true) : ∃ L, WayTo side l d p L := by
  obtain ⟨L, h, _⟩ := way_ex hr hd (dk d (pn side p.x p.y)).toNat p ho (by omega)
  exact ⟨L, h⟩
theorem sum_le (hr : gridRight side l = true) (hd : GDist side l ax ay d) {p : Pl} (ho : opn side l p.x p.y = true) : dk d (pn side p.x p.y) ≤ 1300 := by
  obtain ⟨L, h⟩ := way_any hr hd ho
  exact (way_small hr hd h ho).2
end
/-- What WayOf answers: code, cost, places. -/
def wayOut (side : Int) (l : List Int) (ax ay bx b_y : Int) (d : List Int) (L : List Pl) : Int × Int × List Pl :=
  if gridRight side l = false then (1, 0, [])
  else if (gridIn side ax ay && gridIn side bx b_y) = false then (8, 0, [])
  else if dOne side l ax ay bx b_y d < 0 then (6, 0, [])
  else (0, dk d (pn side bx b_y), L)
end Go.Proofs.Ytmjbefjkkncjlaa
