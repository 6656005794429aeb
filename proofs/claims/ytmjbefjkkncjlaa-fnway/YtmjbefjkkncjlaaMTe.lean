/- Several texts in one: WyFw, FWq, FWp. -/
import Derived.Test.YtmjbefjkkncjlaaWyW
import Derived.Test.YtmjbefjkkncjlaaWyX
import Derived.Test.YtmjbefjkkncjlaaMTd
import Derived.Test.YtmjbefjkkncjlaaWyF
namespace Go.Proofs.Ytmjbefjkkncjlaa
open Go.RowKit
set_option linter.unusedVariables false
set_option linter.unusedSimpArgs false

section
variable {side : Int} {l d : List Int} {ax ay : Int}
/-- A way, place by place: from where the sums begin, each step to one beside, the sums along it. -/
theorem WayTo.places (hr : gridRight side l = true) (hd : GDist side l ax ay d) (ha : opn side l ax ay = true) {p : Pl} {L : List Pl} (h : WayTo side l d p L) (ho : opn side l p.x p.y = true) (h0 : 0 ≤ dk d (pn side p.x p.y)) :
    (∃ t, L = ⟨ax, ay⟩ :: t) ∧ (∃ t, L = t ++ [p]) ∧ (∀ i (hi : i < L.length), opn side l L[i].x L[i].y = true) ∧
      ∀ i (hi : i + 1 < L.length), (L[i + 1].x, L[i + 1].y) ∈ abt L[i].x L[i].y ∧ dk d (pn side L[i + 1].x L[i + 1].y) = dk d (pn side L[i].x L[i].y) + cst l (pn side L[i].x L[i].y) (pn side L[i + 1].x L[i + 1].y) := by
  induction h with
  | @here p hp =>
    have e := zero_src hr hd ha ho (by omega)
    refine ⟨⟨[], by rw [e]⟩, ⟨[], rfl⟩, fun i hi => ?_, fun i hi => absurd hi (by simp)⟩
    have hi0 : i = 0 := by simpa using hi
    subst hi0
    simpa using ho
  | @step p L hp hw ih =>
    obtain ⟨h1, h2, h3, h4⟩ := prv_parts hr hd ho hp
    obtain ⟨⟨t1, e1⟩, ⟨t2, e2⟩, i1, i2⟩ := ih h1 h3
    have hn : 0 < L.length := by rw [e1]; simp
    have hlast : L[L.length - 1]'(by omega) = prv side l d p := by
      subst e2
      simp
    refine ⟨⟨t1 ++ [p], by rw [e1]; rfl⟩, ⟨L, rfl⟩, fun i hi => ?_, fun i hi => ?_⟩
    · by_cases hl : i < L.length
      · rw [List.getElem_append_left hl]
        exact i1 i hl
      · have : i = L.length := by simp at hi; omega
        subst this
        simpa using ho
    · by_cases hl : i + 1 < L.length
      · rw [List.getElem_append_left hl, List.getElem_append_left (by omega)]
        exact i2 i hl
      · have hi1 : i = L.length - 1 := by simp at hi; omega
        have hiL : i < L.length := by omega
        have e3 : (L ++ [p])[i + 1] = p := by
          rw [List.getElem_append_right (by omega)]
          simp
        have e4 : (L ++ [p])[i] = prv side l d p := by
          rw [List.getElem_append_left hiL]
          subst hi1
          exact hlast
        rw [e3, e4]
        exact ⟨abt_back h2, h4.symm⟩
/-- Beside is a step of one. -/
theorem abt_one {x y u v : Int} (h : (u, v) ∈ abt x y) : (x - u) * (x - u) + (y - v) * (y - v) = 1 := by
  simp only [abt, List.mem_cons, Prod.mk.injEq, List.not_mem_nil, or_false] at h
  rcases h with ⟨rfl, rfl⟩ | ⟨rfl, rfl⟩ | ⟨rfl, rfl⟩ | ⟨rfl, rfl⟩
  · have e1 : u - u = 0 := by omega
    have e2 : y - (y - 1) = 1 := by omega
    rw [e1, e2]; rfl
  · have e1 : x - (x - 1) = 1 := by omega
    have e2 : v - v = 0 := by omega
    rw [e1, e2]; rfl
  · have e1 : x - (x + 1) = -1 := by omega
    have e2 : v - v = 0 := by omega
    rw [e1, e2]; rfl
  · have e1 : u - u = 0 := by omega
    have e2 : y - (y + 1) = -1 := by omega
    rw [e1, e2]; rfl
end
/-- Ways back are as long. -/
theorem Wk.cons {E : Nat → Nat → Prop} {c : Nat → Nat → Int} {s t k : Nat} {x : Int} (he : E s t) (h : Wk E c t k x) : Wk E c s k (c s t + x) := by
  induction h with
  | here =>
    have := Wk.step (c := c) (Wk.here (E := E) (c := c) (s := s)) he
    simpa using this
  | step h he2 ih =>
    have := Wk.step ih he2
    rw [← Int.add_assoc]
    exact this
theorem Wk.turn {E : Nat → Nat → Prop} {c : Nat → Nat → Int} (hE : ∀ i j, E i j → E j i) (hc : ∀ i j, c i j = c j i) {s k : Nat} {x : Int} (h : Wk E c s k x) : Wk E c k s x := by
  induction h with
  | here => exact .here
  | @step i j x h he ih =>
    have := Wk.cons (hE _ _ he) ih
    rw [hc, Int.add_comm] at this
    exact this
/-- As far there as back. -/
theorem dist_turn {side : Int} {l d e : List Int} {x y u v : Int} (hr : gridRight side l = true) (hd : GDist side l x y d) (he : GDist side l u v e) (ho : opn side l x y = true) (hp : opn side l u v = true) : dk d (pn side u v) = dk e (pn side x y) := by
  have h1 := hd.lab _ (opn_parts hr hp).2.1
  have h2 := he.lab _ (opn_parts hr ho).2.1
  have ht : ∀ {s k : Nat} {a : Int}, Wk (Stp side l) (cst l) s k a → Wk (Stp side l) (cst l) k s a := fun h => h.turn (fun _ _ => stp_back) (cst_back l)
  rcases h1 with h1 | ⟨p1, w1⟩
  · rcases h2 with h2 | ⟨p2, w2⟩
    · rw [h1, h2]
    · have := (hd.least (ht w2)).1
      omega
  · have q1 := he.least (ht w1)
    rcases h2 with h2 | ⟨p2, w2⟩
    · omega
    · have q2 := hd.least (ht w2)
      omega
theorem dOne_turn {side : Int} {l d e : List Int} {x y u v : Int} (hd : (gridRight side l && opn side l x y) = true → GDist side l x y d) (he : (gridRight side l && opn side l u v) = true → GDist side l u v e) : dOne side l x y u v d = dOne side l u v x y e := by
  unfold dOne
  cases hr : gridRight side l
  · simp
  · cases ho : opn side l x y
    · cases hp : opn side l u v <;> simp [ho, hp]
    · cases hp : opn side l u v
      · simp [ho, hp]
      · simp only [Bool.and_self, if_true]
        exact dist_turn hr (hd (by rw [hr, ho]; rfl)) (he (by rw [hr, hp]; rfl)) ho hp
/-- Two places by number, one beside or below the other, are a step apart. -/
theorem near_stp {side : Int} {l : List Int} (hr : gridRight side l = true) {i j : Nat} (hi : i < l.length) (hj : j < l.length) (hn : ((j : Int) = i + 1 ∧ (j : Int).tmod side > 0) ∨ (j : Int) = i + side) (h1 : l[i] ≠ 9) (h2 : l[j] ≠ 9) : Stp side l i j := by
  have hg : ∀ (k : Nat) (hk : k < l.length), l.getD k 0 = l[k] := fun k hk => by simp [List.getD, hk]
  have key : ∀ (x y u v : Int), (0 ≤ x ∧ x < side ∧ 0 ≤ y ∧ y < side) → (0 ≤ u ∧ u < side ∧ 0 ≤ v ∧ v < side) → (u, v) ∈ abt x y → pn side x y = i → pn side u v = j → Stp side l i j := by
    intro x y u v g1 g2 hm e1 e2
    refine ⟨x, y, u, v, ?_, ?_, hm, e1.symm, e2.symm⟩
    · unfold opn
      rw [e1, hg i hi, gridIn_iff.2 g1]
      simpa using h1
    · unfold opn
      rw [e2, hg j hj, gridIn_iff.2 g2]
      simpa using h2
  obtain ⟨hs, hl, _⟩ := right_parts hr
  have hn' : ((j : Int) = i + 1 ∧ (j : Int) % side > 0) ∨ (j : Int) = i + side := by
    rcases hn with ⟨e, hm⟩ | e
    · rw [Int.tmod_eq_emod_of_nonneg (by omega)] at hm
      exact .inl ⟨e, hm⟩
    · exact .inr e
  rcases (sideOk_iff side).1 hs with rfl | rfl | rfl | rfl
  · rcases hn' with ⟨e, hm⟩ | e
    · refine key ((i : Int) % 1) ((i : Int) / 1) ((j : Int) % 1) ((j : Int) / 1) (by omega) (by omega) ?_ (by unfold pn; omega) (by unfold pn; omega)
      simp only [abt, List.mem_cons, Prod.mk.injEq, List.not_mem_nil, or_false]
      omega
    · refine key ((i : Int) % 1) ((i : Int) / 1) ((j : Int) % 1) ((j : Int) / 1) (by omega) (by omega) ?_ (by unfold pn; omega) (by unfold pn; omega)
      simp only [abt, List.mem_cons, Prod.mk.injEq, List.not_mem_nil, or_false]
      omega
  · rcases hn' with ⟨e, hm⟩ | e
    · refine key ((i : Int) % 2) ((i : Int) / 2) ((j : Int) % 2) ((j : Int) / 2) (by omega) (by omega) ?_ (by unfold pn; omega) (by unfold pn; omega)
      simp only [abt, List.mem_cons, Prod.mk.injEq, List.not_mem_nil, or_false]
      omega
    · refine key ((i : Int) % 2) ((i : Int) / 2) ((j : Int) % 2) ((j : Int) / 2) (by omega) (by omega) ?_ (by unfold pn; omega) (by unfold pn; omega)
      simp only [abt, List.mem_cons, Prod.mk.injEq, List.not_mem_nil, or_false]
      omega
  · rcases hn' with ⟨e, hm⟩ | e
    · refine key ((i : Int) % 4) ((i : Int) / 4) ((j : Int) % 4) ((j : Int) / 4) (by omega) (by omega) ?_ (by unfold pn; omega) (by unfold pn; omega)
      simp only [abt, List.mem_cons, Prod.mk.injEq, List.not_mem_nil, or_false]
      omega
    · refine key ((i : Int) % 4) ((i : Int) / 4) ((j : Int) % 4) ((j : Int) / 4) (by omega) (by omega) ?_ (by unfold pn; omega) (by unfold pn; omega)
      simp only [abt, List.mem_cons, Prod.mk.injEq, List.not_mem_nil, or_false]
      omega
  · rcases hn' with ⟨e, hm⟩ | e
    · refine key ((i : Int) % 8) ((i : Int) / 8) ((j : Int) % 8) ((j : Int) / 8) (by omega) (by omega) ?_ (by unfold pn; omega) (by unfold pn; omega)
      simp only [abt, List.mem_cons, Prod.mk.injEq, List.not_mem_nil, or_false]
      omega
    · refine key ((i : Int) % 8) ((i : Int) / 8) ((j : Int) % 8) ((j : Int) / 8) (by omega) (by omega) ?_ (by unfold pn; omega) (by unfold pn; omega)
      simp only [abt, List.mem_cons, Prod.mk.injEq, List.not_mem_nil, or_false]
      omega
end Go.Proofs.Ytmjbefjkkncjlaa

namespace Go.Proofs.Ytmjbefjkkncjlaa
open Go.RowKit
set_option linter.unusedVariables false
set_option linter.unusedSimpArgs false

theorem dk_bnd {side : Int} {l d : List Int} {ax ay : Int} (hr : gridRight side l = true) (hd : GDist side l ax ay d) {k : Nat} (hk : k < l.length) : -1 ≤ dk d k ∧ dk d k ≤ 1300 := by
  rcases hd.lab k hk with e | ⟨h0, hw⟩
  · omega
  · refine ⟨by omega, ?_⟩
    generalize hx : dk d k = x at hw
    cases hw with
    | here => omega
    | @step i _ x hw he =>
      obtain ⟨x1, y1, u, v, h1, h2, h3, rfl, rfl⟩ := he
      have := sum_le hr hd (p := ⟨u, v⟩) h2
      simp only at this
      omega
/-- One number is beside or below the other. -/
def nearB (side : Int) (i j : Nat) : Bool := (((j : Int) == i + 1) && decide (0 < (j : Int) % side)) || ((j : Int) == i + side)
theorem nearB_iff {side : Int} {i j : Nat} : nearB side i j = true ↔ ((j : Int) = i + 1 ∧ (j : Int).tmod side > 0) ∨ (j : Int) = i + side := by
  have : (j : Int).tmod side = (j : Int) % side := Int.tmod_eq_emod_of_nonneg (by omega)
  simp [nearB, this]
/-- What the sums are like. -/
def DFacts (side : Int) (l dl : List Int) : Prop := 0 < dl.length → dl.length = l.length ∧ (1 ≤ side ∧ side ≤ 8) ∧ (∀ k (h : k < l.length), 0 ≤ l[k] ∧ l[k] ≤ 9) ∧ (∀ k (h : k < dl.length), -1 ≤ dl[k] ∧ dl[k] ≤ 1300) ∧
  ∀ i j (hi : i < dl.length) (hj : j < dl.length) (hi' : i < l.length) (hj' : j < l.length), nearB side i j = true → l[i] ≠ 9 → l[j] ≠ 9 → (dl[i] < 0 ∧ dl[j] < 0) ∨ (0 ≤ dl[i] ∧ 0 ≤ dl[j] ∧ dl[i] - dl[j] ≤ 1 + l[i] + l[j] ∧ dl[j] - dl[i] ≤ 1 + l[i] + l[j])
theorem dOut_facts {side : Int} {l : List Int} {x y : Int} {d : List Int} (hd : (gridRight side l && opn side l x y) = true → GDist side l x y d) : DFacts side l (dOut side l x y d) := by
  intro h0
  cases hro : (gridRight side l && opn side l x y)
  · simp [dOut, hro] at h0
  · have hr : gridRight side l = true := by simp only [Bool.and_eq_true] at hro; exact hro.1
    have hd := hd hro
    have e : dOut side l x y d = d := by rw [dOut, hro]; rfl
    rw [e] at h0 ⊢
    clear e
    have hlen := hd.len
    obtain ⟨hs, _, ht⟩ := right_parts hr
    refine ⟨hlen, by rcases (sideOk_iff side).1 hs with rfl | rfl | rfl | rfl <;> omega, ht, fun k h => ?_, fun i j hi hj hi' hj' hn h1 h2 => ?_⟩
    · have := dk_bnd hr hd (k := k) (by omega)
      rwa [dk_lt h] at this
    · have hst := near_stp hr hi' hj' (nearB_iff.1 hn) h1 h2
      have r1 := hd.rel _ _ hst
      have r2 := hd.rel _ _ (stp_back hst)
      have c1 : cst l i j = 1 + l[i] + l[j] := by simp [cst, List.getD, hi', hj']
      have c2 : cst l j i = 1 + l[i] + l[j] := by rw [cst_back, c1]
      rw [dk_lt hi, dk_lt hj, c1] at r1
      rw [dk_lt hi, dk_lt hj, c2] at r2
      by_cases h0 : 0 ≤ d[i]
      · have := r1 h0
        have := r2 this.1
        exact .inr ⟨h0, by omega, by omega, by omega⟩
      · refine .inl ⟨by omega, ?_⟩
        by_cases hj0 : 0 ≤ d[j]
        · exact absurd (r2 hj0).1 h0
        · omega
theorem i64_small {x : Int} (h0 : -1000000 ≤ x) (h1 : x ≤ 1000000) : IntKind.i64.wrap x = x := IntWalk.i64_in _ (by omega)
theorem w64_small {x : Int} (h0 : -1000000 ≤ x) (h1 : x ≤ 1000000) : wrap64 x = x := wrap64_in (by omega) (by omega)
theorem idx_facts {j : Nat} (h : j ≤ 1000) : IntKind.i64.wrap ((j : Int) + 1 - 1) = j ∧ wrap64 ((j : Int) + 1 - 1) = j ∧ IntKind.i64.wrap (j : Int) = j ∧ wrap64 (j : Int) = j ∧ (0 : Int) ≤ (j : Int) ∧ (0 : Int) ≤ (j : Int) + 1 := by
  have e : (j : Int) + 1 - 1 = j := by omega
  have e1 := i64_small (x := (j : Int)) (by omega) (by omega)
  have e2 := w64_small (x := (j : Int)) (by omega) (by omega)
  rw [e]
  exact ⟨e1, e2, e1, e2, by omega, by omega⟩
/-- How far it is to the k-th place of a way. -/
def smAt (side : Int) (d : List Int) (T : List Pl) (k : Nat) : Int := dk d (pn side (T.getD k ⟨0, 0⟩).x (T.getD k ⟨0, 0⟩).y)
theorem abt_four {x y u v : Int} (h : (u, v) ∈ abt x y) : (x - u = 0 ∧ y - v = 1) ∨ (x - u = 1 ∧ y - v = 0) ∨ (x - u = -1 ∧ y - v = 0) ∨ (x - u = 0 ∧ y - v = -1) := by
  simp only [abt, List.mem_cons, Prod.mk.injEq, List.not_mem_nil, or_false] at h
  omega
/-- What a way is like, place by place. -/
def WFacts (side : Int) (l d : List Int) (ax ay bx b_y S : Int) (T : List Pl) : Prop :=
  ∃ h0 : 0 < T.length, T[0] = ⟨ax, ay⟩ ∧ T[T.length - 1]'(by omega) = ⟨bx, b_y⟩ ∧ smAt side d T 0 = 0 ∧ smAt side d T (T.length - 1) = S ∧ (0 ≤ S ∧ S ≤ 1300) ∧
    ∀ k (h : k + 1 < T.length), ((T[k].x - T[k + 1].x = 0 ∧ T[k].y - T[k + 1].y = 1) ∨ (T[k].x - T[k + 1].x = 1 ∧ T[k].y - T[k + 1].y = 0) ∨ (T[k].x - T[k + 1].x = -1 ∧ T[k].y - T[k + 1].y = 0) ∨ (T[k].x - T[k + 1].x = 0 ∧ T[k].y - T[k + 1].y = -1)) ∧
      (0 ≤ tileAt side l T[k].x T[k].y ∧ tileAt side l T[k].x T[k].y ≤ 9 ∧ 0 ≤ tileAt side l T[k + 1].x T[k + 1].y ∧ tileAt side l T[k + 1].x T[k + 1].y ≤ 9) ∧
      (-1 ≤ smAt side d T k ∧ smAt side d T k ≤ 1300) ∧ smAt side d T k + 1 + tileAt side l T[k].x T[k].y + tileAt side l T[k + 1].x T[k + 1].y = smAt side d T (k + 1)
theorem way_facts {side : Int} {l d : List Int} {ax ay bx b_y : Int} {T : List Pl} (hr : gridRight side l = true) (ha : opn side l ax ay = true) (hb : opn side l bx b_y = true) (h0 : 0 ≤ dk d (pn side bx b_y)) (hd : GDist side l ax ay d) (hw : WayTo side l d ⟨bx, b_y⟩ T) : WFacts side l d ax ay bx b_y (dk d (pn side bx b_y)) T := by
  obtain ⟨⟨t1, e1⟩, ⟨t2, e2⟩, i1, i2⟩ := hw.places hr hd ha hb h0
  have hn : 0 < T.length := by rw [e1]; simp
  have f0 : T[0] = ⟨ax, ay⟩ := by subst e1; rfl
  have fl : T[T.length - 1]'(by omega) = ⟨bx, b_y⟩ := by subst e2; simp
  have hsm : ∀ k (h : k < T.length), smAt side d T k = dk d (pn side T[k].x T[k].y) := fun k h => by simp [smAt, List.getD, h]
  refine ⟨hn, f0, fl, by rw [hsm 0 hn, f0]; exact hd.src.2, by rw [hsm _ (by omega), fl], ⟨h0, (dk_bnd hr hd (opn_parts hr hb).2.1).2⟩, fun k h => ?_⟩
  obtain ⟨h1, h2⟩ := i2 k h
  have o1 := i1 k (by omega)
  have o2 := i1 (k + 1) h
  have ht : ∀ x y, opn side l x y = true → tileAt side l x y = l.getD (pn side x y) 0 ∧ 0 ≤ tileAt side l x y ∧ tileAt side l x y ≤ 9 := by
    intro x y ho
    obtain ⟨g1, g2, g3, g4, g5⟩ := opn_parts hr ho
    have e : tileAt side l x y = l.getD (pn side x y) 0 := by simp [tileAt, hr, g1, pn]
    exact ⟨e, by omega, by omega⟩
  obtain ⟨a1, a2, a3⟩ := ht _ _ o1
  obtain ⟨b1, b2, b3⟩ := ht _ _ o2
  refine ⟨abt_four h1, ⟨a2, a3, b2, b3⟩, ?_, ?_⟩
  · rw [hsm k (by omega)]
    exact dk_bnd hr hd (opn_parts hr o1).2.1
  · rw [hsm k (by omega), hsm (k + 1) h, h2, a1, b1]
    unfold cst
    omega
end Go.Proofs.Ytmjbefjkkncjlaa

namespace Go.Proofs.Ytmjbefjkkncjlaa
open Go.RowKit
set_option linter.unusedVariables false
set_option linter.unusedSimpArgs false

/-- Block b holds the fields of a map whose tiles can be read. -/
structure Gm (b : Nat) (side : Int) (A : Option Addr) (c : Nat) (l : List Int) (wr : World) : Prop where
  c0 : wr.cell? ⟨b, 0, none⟩ = some (.int .i64 side)
  c1 : wr.cell? ⟨b, 1, none⟩ = some (.slice A l.length c)
  lt : b < wr.heap.size
  ri : RI wr wr.heap.size A l
theorem RI.go {w w' : World} {A : Option Addr} {l : List Int} (h : RI w w.heap.size A l) (hb : Below w.heap.size w w') : RI w' w'.heap.size A l := (h.below hb).mono hb.size
theorem Gm.on {b : Nat} {side : Int} {A : Option Addr} {c : Nat} {l : List Int} {w w' : World} (h : Gm b side A c l w) (hb : Below w.heap.size w w') : Gm b side A c l w' :=
  ⟨(hb.cell (p := ⟨b, 0, none⟩) h.lt).trans h.c0, (hb.cell (p := ⟨b, 1, none⟩) h.lt).trans h.c1, Nat.lt_of_lt_of_le h.lt hb.size, h.ri.go hb⟩
theorem Gm.made {side : Int} {A : Option Addr} {c : Nat} {l : List Int} {w : World} (t : TypeId) (h : RI w w.heap.size A l) : Gm w.heap.size side A c l (w.alloc (.cells #[.int .i64 side, .slice A l.length c] t)) :=
  ⟨by simp [go_sem], by simp [go_sem], by simp, h.go ((Below.refl _ _).alloc (Nat.le_refl _) _)⟩
/-- What stays true while only new memory is made. -/
def Kep (P : World → Prop) : Prop := ∀ w w', Below w.heap.size w w' → P w → P w'
theorem belowA (w : World) (o : Obj) : Below w.heap.size w (w.alloc o) := (Below.refl _ _).alloc (Nat.le_refl _) _
theorem belowD (w : World) : Below w.heap.size w w.drew := (Below.refl _ _).drew
theorem belowN (w : World) (n : Nat) : Below w.heap.size w (w.drewN n) := ⟨rfl, rfl, rfl, Nat.le_refl _, fun _ _ => rfl⟩
theorem bAnd {a b c : World} (h : Below a.heap.size a b) (k : Below b.heap.size b c) : Below a.heap.size a c := h.trans (k.mono h.size)
theorem bytes_more {w w' : World} {A : Option Addr} {n : Nat} (h : BytesIn w w.heap.size A n) (hb : Below w.heap.size w w') : BytesIn w' w'.heap.size A n := by
  rcases h with h | ⟨b, off, rfl, hbl, hc⟩
  · exact .inl h
  · exact .inr ⟨b, off, rfl, Nat.lt_of_lt_of_le hbl hb.size, fun j hj => by
      obtain ⟨v, h1, h2⟩ := hc j hj
      exact ⟨v, h1, (hb.cell (p := ⟨b, off + j, none⟩) hbl).trans h2⟩⟩
/-- A place in its box. -/
structure Pm (b : Nat) (x y : Int) (wr : World) : Prop where
  c0 : wr.cell? ⟨b, 0, none⟩ = some (.int .i64 x)
  c1 : wr.cell? ⟨b, 1, none⟩ = some (.int .i64 y)
  lt : b < wr.heap.size
theorem Pm.on {b : Nat} {x y : Int} {w w' : World} (h : Pm b x y w) (hb : Below w.heap.size w w') : Pm b x y w' :=
  ⟨(hb.cell (p := ⟨b, 0, none⟩) h.lt).trans h.c0, (hb.cell (p := ⟨b, 1, none⟩) h.lt).trans h.c1, Nat.lt_of_lt_of_le h.lt hb.size⟩
theorem Pm.made {w : World} (x y : Int) (t : TypeId) : Pm w.heap.size x y (w.alloc (.cells #[.int .i64 x, .int .i64 y] t)) := ⟨by simp [go_sem], by simp [go_sem], by simp⟩
/-- Two places, in two boxes. -/
def Two (Q : World → Prop) (x y u v : Int) (cu cv : Value) (wx : World) : Prop := ∃ bu bv, cu = .pointer (some ⟨bu, 0, none⟩) ∧ cv = .pointer (some ⟨bv, 0, none⟩) ∧ Pm bu x y wx ∧ Pm bv u v wx ∧ Q wx
theorem two_a {Q : World → Prop} {W : World} {x y u v : Int} {t : TypeId} (HQ : ∀ v o, Q v → Q (v.alloc o)) (q : Q W) : Two Q x y u v (.pointer (some ⟨W.heap.size, 0, none⟩)) (.pointer (some ⟨W.heap.size + 1, 0, none⟩)) ((W.alloc (.cells #[.int .i64 x, .int .i64 y] t)).alloc (.cells #[.int .i64 u, .int .i64 v] t)) := by
  refine ⟨_, _, rfl, rfl, (Pm.made _ _ _).on (belowA _ _), ?_, HQ _ _ (HQ _ _ q)⟩
  have := Pm.made (w := W.alloc (.cells #[.int .i64 x, .int .i64 y] t)) u v t
  rwa [alloc_size] at this
theorem two_b {Q : World → Prop} {W : World} {x y u v : Int} {t : TypeId} (HQ : ∀ v o, Q v → Q (v.alloc o)) (q : Q W) : Two Q x y u v (.pointer (some ⟨W.heap.size + 1, 0, none⟩)) (.pointer (some ⟨W.heap.size, 0, none⟩)) ((W.alloc (.cells #[.int .i64 u, .int .i64 v] t)).alloc (.cells #[.int .i64 x, .int .i64 y] t)) := by
  refine ⟨_, _, rfl, rfl, ?_, (Pm.made _ _ _).on (belowA _ _), HQ _ _ (HQ _ _ q)⟩
  have := Pm.made (w := W.alloc (.cells #[.int .i64 u, .int .i64 v] t)) x y t
  rwa [alloc_size] at this
/-- A way in its box, whose row can be read. -/
structure Wm (q : Nat) (S C : Int) (A : Option Addr) (c : Nat) (T : List Pl) (wr : World) : Prop where
  m : WB wr q (.slice A T.length c) S C
  lt : q < wr.heap.size
  rp : RPl wr wr.heap.size A T
theorem Wm.on {q : Nat} {S C : Int} {A : Option Addr} {c : Nat} {T : List Pl} {w w' : World} (h : Wm q S C A c T w) (hb : Below w.heap.size w w') : Wm q S C A c T w' :=
  ⟨h.m.at_ (hb.block q h.lt), Nat.lt_of_lt_of_le h.lt hb.size, h.rp.below' hb⟩
theorem Wm.made {S C : Int} {A : Option Addr} {c : Nat} {T : List Pl} {w : World} (t : TypeId) (h : RPl w w.heap.size A T) : Wm w.heap.size S C A c T (w.alloc (.cells #[.slice A T.length c, .int .i64 S, .int .i64 C] t)) :=
  ⟨WB.made _ _ _ _ _, by simp, h.below' ((Below.refl _ _).alloc (Nat.le_refl _) _)⟩
theorem Wm.made2 {q : Nat} {S C : Int} {A : Option Addr} {c : Nat} {T : List Pl} {w : World} {t : TypeId} (hq : q = w.heap.size) (h : RPl w w.heap.size A T) : Wm q S C A c T (w.alloc (.cells #[.slice A T.length c, .int .i64 S, .int .i64 C] t)) := hq ▸ Wm.made t h
/-- An empty box for a way, made since w0. -/
structure Zb (w0 : World) (q : Nat) (wr : World) : Prop where
  m : WB wr q (.slice none 0 0) 0 0
  lt : w0.heap.size ≤ q ∧ q < wr.heap.size
theorem Zb.on {w0 : World} {q : Nat} {w w' : World} (h : Zb w0 q w) (hb : Below w.heap.size w w') : Zb w0 q w' := ⟨h.m.at_ (hb.block q h.lt.2), h.lt.1, Nat.lt_of_lt_of_le h.lt.2 hb.size⟩
theorem Zb.made {w0 w : World} (h : w0.heap.size ≤ w.heap.size) : Zb w0 w.heap.size (w.alloc (.cells #[.slice none 0 0, .int .i64 0, .int .i64 0] 32)) := ⟨WB.made _ _ _ _ _, h, by simp⟩
/-- The answer of a way, to be read. -/
def Own1 (A : Option Addr) (lo hi : Nat) : Prop := ∀ a, A = some a → lo ≤ a.block ∧ a.block < hi
def WRead (w w' : World) (r : Int × Int × List Pl) (e : Ending) : Prop :=
  ∃ A c, e = .returned (.agg #[.slice A r.2.2.length c, .int .i64 r.2.1, .int .i64 r.1]) ∧ RPl w' w'.heap.size A r.2.2 ∧ Own1 A w.heap.size w'.heap.size ∧ Below w.heap.size w w'
theorem WOut.rd {w w' : World} {r : Int × Int × List Pl} {e : Ending} (h : WOut w w' r.2.1 r.1 r.2.2 e) : WRead w w' r e := by
  obtain ⟨A, c, h1, h2, h3⟩ := h
  exact ⟨A, c, h1, h2.r, fun a e => h2.lt a.block (by subst e; rfl), h3⟩
/-- A row of numbers handed back, to be read. -/
def NRead (w w' : World) (l : List Int) (e : Ending) : Prop := ∃ A c, e = .returned (.slice A l.length c) ∧ RI w' w'.heap.size A l ∧ Below w.heap.size w w'
theorem NOut.rd {w w' : World} {l : List Int} {e : Ending} (h : NOut w w' l e) : NRead w w' l e := by
  obtain ⟨A, c, h1, h2, h3⟩ := h
  exact ⟨A, c, h1, h2.ri, h3⟩
/-- The three cells of a way's box are set. -/
abbrev three (w : World) (q : Nat) (v : Value) (S C : Int) : World := ((w.setCell ⟨q, 0, none⟩ v).setCell ⟨q, 1, none⟩ (.int .i64 S)).setCell ⟨q, 2, none⟩ (.int .i64 C)
theorem three_size (w : World) (q : Nat) (v : Value) (S C : Int) : (three w q v S C).heap.size = w.heap.size := by simp [three]
theorem three_other (w : World) (q k : Nat) (v : Value) (S C : Int) (h : k ≠ q) : (three w q v S C).heap[k]? = w.heap[k]? := by
  rw [three, heap_setCell_other _ _ _ _ h, heap_setCell_other _ _ _ _ h, heap_setCell_other _ _ _ _ h]
def Off (A : Option Addr) (q : Nat) : Prop := ∀ a, A = some a → a.block ≠ q
theorem Own1.off_lo {A : Option Addr} {lo hi q : Nat} (h : Own1 A lo hi) (hq : q < lo) : Off A q := fun a e => by have := (h a e).1; omega
theorem Own1.off_hi {A : Option Addr} {lo hi q : Nat} (h : Own1 A lo hi) (hq : hi ≤ q) : Off A q := fun a e => by have := (h a e).2; omega
theorem RPl.three {w : World} {A : Option Addr} {l : List Pl} (h : RPl w w.heap.size A l) {q : Nat} (ho : Off A q) (v : Value) (S C : Int) : RPl (three w q v S C) (three w q v S C).heap.size A l := by
  rw [three_size]
  rcases h with h | ⟨b, off, rfl, hb, hv⟩
  · exact .inl h
  · have hk := three_other w q b v S C (ho _ rfl)
    refine .inr ⟨b, off, rfl, hb, fun j hj => ?_⟩
    obtain ⟨h0, h1⟩ := hv j hj
    exact ⟨(World.cell?_of_block (w := w) (a := ⟨b, _, none⟩) hk).trans h0, (World.cell?_of_block (w := w) (a := ⟨b, _, none⟩) hk).trans h1⟩
theorem Zb.three {w0 : World} {p : Nat} {w : World} (h : Zb w0 p w) {q : Nat} (hq : p ≠ q) (v : Value) (S C : Int) : Zb w0 p (three w q v S C) := ⟨h.m.at_ (three_other w q p v S C hq), h.lt.1, by rw [three_size]; exact h.lt.2⟩
theorem Wm.three {p : Nat} {S C : Int} {A : Option Addr} {c : Nat} {T : List Pl} {w : World} (h : Wm p S C A c T w) {q : Nat} (hq : p ≠ q) (hA : Off A q) (v : Value) (S' C' : Int) : Wm p S C A c T (three w q v S' C') :=
  ⟨h.m.at_ (three_other w q p v S' C' hq), by rw [three_size]; exact h.lt, h.rp.three hA _ _ _⟩
theorem Zb.fill {w0 : World} {q : Nat} {w : World} (z : Zb w0 q w) {A : Option Addr} {T : List Pl} (hr : RPl w w.heap.size A T) (hA : Off A q) (S C : Int) (c : Nat) : Wm q S C A c T (Go.Proofs.Ytmjbefjkkncjlaa.three w q (.slice A T.length c) S C) := by
  have a0 : (w.setCell ⟨q, 0, none⟩ (.slice A T.length c)).cell? ⟨q, 0, none⟩ = some (.slice A T.length c) := World.cell?_setCell_same _ _ _ z.m.c0
  have a1 : (w.setCell ⟨q, 0, none⟩ (.slice A T.length c)).cell? ⟨q, 1, none⟩ = some (.int .i64 0) := (World.cell?_setCell_other _ _ _ _ (by simp)).trans z.m.c1
  have a2 : (w.setCell ⟨q, 0, none⟩ (.slice A T.length c)).cell? ⟨q, 2, none⟩ = some (.int .i64 0) := (World.cell?_setCell_other _ _ _ _ (by simp)).trans z.m.c2
  have b0 := (World.cell?_setCell_other (w.setCell ⟨q, 0, none⟩ (.slice A T.length c)) ⟨q, 1, none⟩ ⟨q, 0, none⟩ (.int .i64 S) (by simp)).trans a0
  have b1 : ((w.setCell ⟨q, 0, none⟩ (.slice A T.length c)).setCell ⟨q, 1, none⟩ (.int .i64 S)).cell? ⟨q, 1, none⟩ = some (.int .i64 S) := World.cell?_setCell_same _ _ _ a1
  have b2 := (World.cell?_setCell_other (w.setCell ⟨q, 0, none⟩ (.slice A T.length c)) ⟨q, 1, none⟩ ⟨q, 2, none⟩ (.int .i64 S) (by simp)).trans a2
  exact ⟨⟨(World.cell?_setCell_other _ _ _ _ (by simp)).trans b0, (World.cell?_setCell_other _ _ _ _ (by simp)).trans b1, World.cell?_setCell_same _ _ _ b2, by simpa using z.m.f0, by simpa using z.m.f1, by simpa using z.m.f2⟩, by rw [three_size]; exact z.lt.2, hr.three hA _ _ _⟩
/-- Two ways, alike, in their boxes. -/
def Pair (P : World → Prop) (S C : Int) (T : List Pl) (cx cy : Value) (wx : World) : Prop :=
  ∃ (qx qy : Nat) (X : Option Addr) (k : Nat) (Y : Option Addr) (k' : Nat), cx = .pointer (some ⟨qx, 0, none⟩) ∧ cy = .pointer (some ⟨qy, 0, none⟩) ∧ P wx ∧ Wm qx S C X k T wx ∧ Wm qy S C Y k' T wx
section
variable {P : World → Prop} {W v : World} {S C : Int} {T : List Pl} {X Y : Option Addr} {k k' q q' : Nat} {t : TypeId}
theorem three_keep (HPS : ∀ v q i x, P v → W.heap.size ≤ q → P (v.setCell ⟨q, i, none⟩ x)) (p : P v) (hq : W.heap.size ≤ q) (u : Value) : P (three v q u S C) := HPS _ _ _ _ (HPS _ _ _ _ (HPS _ _ _ _ p hq) hq) hq
theorem pair_a1 (HPA : ∀ v o, P v → P (v.alloc o)) (p : P v) (rx : RPl v v.heap.size X T) (ry : RPl v v.heap.size Y T) :
    Pair P S C T (.pointer (some ⟨v.heap.size, 0, none⟩)) (.pointer (some ⟨v.heap.size + 1, 0, none⟩)) ((v.alloc (.cells #[.slice X T.length k, .int .i64 S, .int .i64 C] t)).alloc (.cells #[.slice Y T.length k', .int .i64 S, .int .i64 C] t)) :=
  ⟨_, _, X, k, Y, k', rfl, rfl, HPA _ _ (HPA _ _ p), (Wm.made t rx).on (belowA _ _), Wm.made2 (by simp) (ry.below' (belowA _ _))⟩
theorem pair_a2 (HPA : ∀ v o, P v → P (v.alloc o)) (p : P v) (rx : RPl v v.heap.size X T) (ry : RPl v v.heap.size Y T) :
    Pair P S C T (.pointer (some ⟨v.heap.size + 1, 0, none⟩)) (.pointer (some ⟨v.heap.size, 0, none⟩)) ((v.alloc (.cells #[.slice Y T.length k', .int .i64 S, .int .i64 C] t)).alloc (.cells #[.slice X T.length k, .int .i64 S, .int .i64 C] t)) :=
  ⟨_, _, X, k, Y, k', rfl, rfl, HPA _ _ (HPA _ _ p), Wm.made2 (by simp) (rx.below' (belowA _ _)), (Wm.made t ry).on (belowA _ _)⟩
theorem pair_b1 (HPA : ∀ v o, P v → P (v.alloc o)) (HPS : ∀ v q i x, P v → W.heap.size ≤ q → P (v.setCell ⟨q, i, none⟩ x)) (p : P v) (rx : RPl v v.heap.size X T) (ry : RPl v v.heap.size Y T) (z : Zb W q v) (f : Off X q) (g : Off Y q) :
    Pair P S C T (.pointer (some ⟨q, 0, none⟩)) (.pointer (some ⟨v.heap.size, 0, none⟩)) ((three v q (.slice X T.length k) S C).alloc (.cells #[.slice Y T.length k', .int .i64 S, .int .i64 C] t)) :=
  ⟨_, _, X, k, Y, k', rfl, rfl, HPA _ _ (three_keep HPS p z.lt.1 _), (z.fill rx f _ _ _).on (belowA _ _), Wm.made2 (three_size _ _ _ _ _).symm (ry.three g _ _ _)⟩
theorem pair_b2 (HPA : ∀ v o, P v → P (v.alloc o)) (HPS : ∀ v q i x, P v → W.heap.size ≤ q → P (v.setCell ⟨q, i, none⟩ x)) (p : P v) (rx : RPl v v.heap.size X T) (ry : RPl v v.heap.size Y T) (z : Zb W q v) (f : Off X q) (g : Off Y q) :
    Pair P S C T (.pointer (some ⟨v.heap.size, 0, none⟩)) (.pointer (some ⟨q, 0, none⟩)) ((three v q (.slice Y T.length k') S C).alloc (.cells #[.slice X T.length k, .int .i64 S, .int .i64 C] t)) :=
  ⟨_, _, X, k, Y, k', rfl, rfl, HPA _ _ (three_keep HPS p z.lt.1 _), Wm.made2 (three_size _ _ _ _ _).symm (rx.three f _ _ _), (z.fill ry g _ _ _).on (belowA _ _)⟩
theorem pair_c1 (HPS : ∀ v q i x, P v → W.heap.size ≤ q → P (v.setCell ⟨q, i, none⟩ x)) (p : P v) (rx : RPl v v.heap.size X T) (ry : RPl v v.heap.size Y T) (z : Zb W q v) (f : Off X q) (g : Off Y q) (z' : Zb W q' v) (f' : Off X q') (g' : Off Y q') (n : q ≠ q') :
    Pair P S C T (.pointer (some ⟨q, 0, none⟩)) (.pointer (some ⟨q', 0, none⟩)) (three (three v q (.slice X T.length k) S C) q' (.slice Y T.length k') S C) :=
  ⟨_, _, X, k, Y, k', rfl, rfl, three_keep HPS (three_keep HPS p z.lt.1 _) z'.lt.1 _, (z.fill rx f _ _ _).three n f' _ _ _, (z'.three n.symm _ _ _).fill (ry.three g _ _ _) g' _ _ _⟩
theorem pair_c2 (HPS : ∀ v q i x, P v → W.heap.size ≤ q → P (v.setCell ⟨q, i, none⟩ x)) (p : P v) (rx : RPl v v.heap.size X T) (ry : RPl v v.heap.size Y T) (z : Zb W q v) (f : Off X q) (g : Off Y q) (z' : Zb W q' v) (f' : Off X q') (g' : Off Y q') (n : q ≠ q') :
    Pair P S C T (.pointer (some ⟨q, 0, none⟩)) (.pointer (some ⟨q', 0, none⟩)) (three (three v q' (.slice Y T.length k') S C) q (.slice X T.length k) S C) :=
  ⟨_, _, X, k, Y, k', rfl, rfl, three_keep HPS (three_keep HPS p z'.lt.1 _) z.lt.1 _, (z.three n _ _ _).fill (rx.three f' _ _ _) f _ _ _, (z'.fill ry g' _ _ _).three n.symm g _ _ _⟩
end
end Go.Proofs.Ytmjbefjkkncjlaa
