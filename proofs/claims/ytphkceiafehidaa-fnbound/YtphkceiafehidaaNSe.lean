/- Several texts in one: WyFw, BdT, Dr12, FBp. -/
import Derived.Test.YtphkceiafehidaaWyW
import Derived.Test.YtphkceiafehidaaNSb
import Derived.Test.YtphkceiafehidaaNSd
import Derived.Deep.CutRange
import Derived.Test.YtphkceiafehidaaWyX
namespace Go.Proofs.Ytphkceiafehidaa
open Go.RowKit
set_option linter.unusedVariables false
set_option linter.unusedSimpArgs false

section
variable {side : Int} {l d : List Int} {ax ay : Int}
/-- A way, place by place: from where the sums begin, each step to one beside, the sums along it. -/
theorem WayTo.places (hr : gridRight side l = true) (hd : GDist side l ax ay d) (ha : opn side l ax ay = true) {p : Pl} {L : List Pl} (h : WayTo side l d p L) (ho : opn side l p.x p.y = true) (h0 : 0 ≤ dk d (pn side p.x p.y)) :
    (∃ t, L = ⟨ax, ay⟩ :: t) ∧ (∃ t, L = t ++ [p]) ∧ (∀ i (hi : i < L.length), opn side l L[i].x L[i].y = true) ∧
      ∀ i (hi : i + 1 < L.length), (L[i + 1].x, L[i + 1].y) ∈ abt L[i].x L[i].y ∧ dk d (pn side L[i + 1].x L[i + 1].y) = dk d (pn side L[i].x L[i].y) + cst l (pn side L[i].x L[i].y) (pn side L[i + 1].x L[i + 1].y) := by
  induction h with
  | @here p hp =>
    have e := zero_src hr hd ha ho (by omega)
    refine ⟨⟨[], by rw [e]⟩, ⟨[], rfl⟩, fun i hi => ?_, fun i hi => absurd hi (by simp)⟩
    have hi0 : i = 0 := by simpa using hi
    subst hi0
    simpa using ho
  | @step p L hp hw ih =>
    obtain ⟨h1, h2, h3, h4⟩ := prv_parts hr hd ho hp
    obtain ⟨⟨t1, e1⟩, ⟨t2, e2⟩, i1, i2⟩ := ih h1 h3
    have hn : 0 < L.length := by rw [e1]; simp
    have hlast : L[L.length - 1]'(by omega) = prv side l d p := by
      subst e2
      simp
    refine ⟨⟨t1 ++ [p], by rw [e1]; rfl⟩, ⟨L, rfl⟩, fun i hi => ?_, fun i hi => ?_⟩
    · by_cases hl : i < L.length
      · rw [List.getElem_append_left hl]
        exact i1 i hl
      · have : i = L.length := by simp at hi; omega
        subst this
        simpa using ho
    · by_cases hl : i + 1 < L.length
      · rw [List.getElem_append_left hl, List.getElem_append_left (by omega)]
        exact i2 i hl
      · have hi1 : i = L.length - 1 := by simp at hi; omega
        have hiL : i < L.length := by omega
        have e3 : (L ++ [p])[i + 1] = p := by
          rw [List.getElem_append_right (by omega)]
          simp
        have e4 : (L ++ [p])[i] = prv side l d p := by
          rw [List.getElem_append_left hiL]
          subst hi1
          exact hlast
        rw [e3, e4]
        exact ⟨abt_back h2, h4.symm⟩
/-- Beside is a step of one. -/
theorem abt_one {x y u v : Int} (h : (u, v) ∈ abt x y) : (x - u) * (x - u) + (y - v) * (y - v) = 1 := by
  simp only [abt, List.mem_cons, Prod.mk.injEq, List.not_mem_nil, or_false] at h
  rcases h with ⟨rfl, rfl⟩ | ⟨rfl, rfl⟩ | ⟨rfl, rfl⟩ | ⟨rfl, rfl⟩
  · have e1 : u - u = 0 := by omega
    have e2 : y - (y - 1) = 1 := by omega
    rw [e1, e2]; rfl
  · have e1 : x - (x - 1) = 1 := by omega
    have e2 : v - v = 0 := by omega
    rw [e1, e2]; rfl
  · have e1 : x - (x + 1) = -1 := by omega
    have e2 : v - v = 0 := by omega
    rw [e1, e2]; rfl
  · have e1 : u - u = 0 := by omega
    have e2 : y - (y + 1) = -1 := by omega
    rw [e1, e2]; rfl
end
/-- Ways back are as long. -/
theorem Wk.cons {E : Nat → Nat → Prop} {c : Nat → Nat → Int} {s t k : Nat} {x : Int} (he : E s t) (h : Wk E c t k x) : Wk E c s k (c s t + x) := by
  induction h with
  | here =>
    have := Wk.step (c := c) (Wk.here (E := E) (c := c) (s := s)) he
    simpa using this
  | step h he2 ih =>
    have := Wk.step ih he2
    rw [← Int.add_assoc]
    exact this
theorem Wk.turn {E : Nat → Nat → Prop} {c : Nat → Nat → Int} (hE : ∀ i j, E i j → E j i) (hc : ∀ i j, c i j = c j i) {s k : Nat} {x : Int} (h : Wk E c s k x) : Wk E c k s x := by
  induction h with
  | here => exact .here
  | @step i j x h he ih =>
    have := Wk.cons (hE _ _ he) ih
    rw [hc, Int.add_comm] at this
    exact this
/-- As far there as back. -/
theorem dist_turn {side : Int} {l d e : List Int} {x y u v : Int} (hr : gridRight side l = true) (hd : GDist side l x y d) (he : GDist side l u v e) (ho : opn side l x y = true) (hp : opn side l u v = true) : dk d (pn side u v) = dk e (pn side x y) := by
  have h1 := hd.lab _ (opn_parts hr hp).2.1
  have h2 := he.lab _ (opn_parts hr ho).2.1
  have ht : ∀ {s k : Nat} {a : Int}, Wk (Stp side l) (cst l) s k a → Wk (Stp side l) (cst l) k s a := fun h => h.turn (fun _ _ => stp_back) (cst_back l)
  rcases h1 with h1 | ⟨p1, w1⟩
  · rcases h2 with h2 | ⟨p2, w2⟩
    · rw [h1, h2]
    · have := (hd.least (ht w2)).1
      omega
  · have q1 := he.least (ht w1)
    rcases h2 with h2 | ⟨p2, w2⟩
    · omega
    · have q2 := hd.least (ht w2)
      omega
theorem dOne_turn {side : Int} {l d e : List Int} {x y u v : Int} (hd : (gridRight side l && opn side l x y) = true → GDist side l x y d) (he : (gridRight side l && opn side l u v) = true → GDist side l u v e) : dOne side l x y u v d = dOne side l u v x y e := by
  unfold dOne
  cases hr : gridRight side l
  · simp
  · cases ho : opn side l x y
    · cases hp : opn side l u v <;> simp [ho, hp]
    · cases hp : opn side l u v
      · simp [ho, hp]
      · simp only [Bool.and_self, if_true]
        exact dist_turn hr (hd (by rw [hr, ho]; rfl)) (he (by rw [hr, hp]; rfl)) ho hp
/-- Two places by number, one beside or below the other, are a step apart. -/
theorem near_stp {side : Int} {l : List Int} (hr : gridRight side l = true) {i j : Nat} (hi : i < l.length) (hj : j < l.length) (hn : ((j : Int) = i + 1 ∧ (j : Int).tmod side > 0) ∨ (j : Int) = i + side) (h1 : l[i] ≠ 9) (h2 : l[j] ≠ 9) : Stp side l i j := by
  have hg : ∀ (k : Nat) (hk : k < l.length), l.getD k 0 = l[k] := fun k hk => by simp [List.getD, hk]
  have key : ∀ (x y u v : Int), (0 ≤ x ∧ x < side ∧ 0 ≤ y ∧ y < side) → (0 ≤ u ∧ u < side ∧ 0 ≤ v ∧ v < side) → (u, v) ∈ abt x y → pn side x y = i → pn side u v = j → Stp side l i j := by
    intro x y u v g1 g2 hm e1 e2
    refine ⟨x, y, u, v, ?_, ?_, hm, e1.symm, e2.symm⟩
    · unfold opn
      rw [e1, hg i hi, gridIn_iff.2 g1]
      simpa using h1
    · unfold opn
      rw [e2, hg j hj, gridIn_iff.2 g2]
      simpa using h2
  obtain ⟨hs, hl, _⟩ := right_parts hr
  have hn' : ((j : Int) = i + 1 ∧ (j : Int) % side > 0) ∨ (j : Int) = i + side := by
    rcases hn with ⟨e, hm⟩ | e
    · rw [Int.tmod_eq_emod_of_nonneg (by omega)] at hm
      exact .inl ⟨e, hm⟩
    · exact .inr e
  rcases (sideOk_iff side).1 hs with rfl | rfl | rfl | rfl
  · rcases hn' with ⟨e, hm⟩ | e
    · refine key ((i : Int) % 1) ((i : Int) / 1) ((j : Int) % 1) ((j : Int) / 1) (by omega) (by omega) ?_ (by unfold pn; omega) (by unfold pn; omega)
      simp only [abt, List.mem_cons, Prod.mk.injEq, List.not_mem_nil, or_false]
      omega
    · refine key ((i : Int) % 1) ((i : Int) / 1) ((j : Int) % 1) ((j : Int) / 1) (by omega) (by omega) ?_ (by unfold pn; omega) (by unfold pn; omega)
      simp only [abt, List.mem_cons, Prod.mk.injEq, List.not_mem_nil, or_false]
      omega
  · rcases hn' with ⟨e, hm⟩ | e
    · refine key ((i : Int) % 2) ((i : Int) / 2) ((j : Int) % 2) ((j : Int) / 2) (by omega) (by omega) ?_ (by unfold pn; omega) (by unfold pn; omega)
      simp only [abt, List.mem_cons, Prod.mk.injEq, List.not_mem_nil, or_false]
      omega
    · refine key ((i : Int) % 2) ((i : Int) / 2) ((j : Int) % 2) ((j : Int) / 2) (by omega) (by omega) ?_ (by unfold pn; omega) (by unfold pn; omega)
      simp only [abt, List.mem_cons, Prod.mk.injEq, List.not_mem_nil, or_false]
      omega
  · rcases hn' with ⟨e, hm⟩ | e
    · refine key ((i : Int) % 4) ((i : Int) / 4) ((j : Int) % 4) ((j : Int) / 4) (by omega) (by omega) ?_ (by unfold pn; omega) (by unfold pn; omega)
      simp only [abt, List.mem_cons, Prod.mk.injEq, List.not_mem_nil, or_false]
      omega
    · refine key ((i : Int) % 4) ((i : Int) / 4) ((j : Int) % 4) ((j : Int) / 4) (by omega) (by omega) ?_ (by unfold pn; omega) (by unfold pn; omega)
      simp only [abt, List.mem_cons, Prod.mk.injEq, List.not_mem_nil, or_false]
      omega
  · rcases hn' with ⟨e, hm⟩ | e
    · refine key ((i : Int) % 8) ((i : Int) / 8) ((j : Int) % 8) ((j : Int) / 8) (by omega) (by omega) ?_ (by unfold pn; omega) (by unfold pn; omega)
      simp only [abt, List.mem_cons, Prod.mk.injEq, List.not_mem_nil, or_false]
      omega
    · refine key ((i : Int) % 8) ((i : Int) / 8) ((j : Int) % 8) ((j : Int) / 8) (by omega) (by omega) ?_ (by unfold pn; omega) (by unfold pn; omega)
      simp only [abt, List.mem_cons, Prod.mk.injEq, List.not_mem_nil, or_false]
      omega
end Go.Proofs.Ytphkceiafehidaa

namespace Go.Proofs.Ytphkceiafehidaa
open Go.RowKit
set_option linter.unusedVariables false
set_option linter.unusedSimpArgs false

/-- Along a way the sums grow no more than it costs. -/
theorem IsD.along {n : Nat} {E : Nat → Nat → Prop} {c : Nat → Nat → Int} {s : Nat} {d : List Int} (h : IsD n E c s d) {i k : Nat} {x : Int} (hw : Wk E c i k x) (hi : 0 ≤ dk d i) : 0 ≤ dk d k ∧ dk d k ≤ dk d i + x := by
  induction hw with
  | here => exact ⟨hi, by omega⟩
  | step _ he ih =>
    have := h.rel _ _ he ih.1
    exact ⟨this.1, by omega⟩
/-- Two places with a way between them: from elsewhere both have one, or neither; and they are no more apart than that. -/
theorem apart_le {side : Int} {l d e : List Int} {x y u v : Int} (hr : gridRight side l = true) (hd : GDist side l x y d) (he : GDist side l u v e) {pb : Nat} (hb : pb < l.length) (hp : 0 ≤ dk d pb) (hin : pn side x y < l.length) :
    (0 ≤ dk e (pn side x y) ↔ 0 ≤ dk e pb) ∧ (0 ≤ dk e (pn side x y) → dk e pb ≤ dk e (pn side x y) + dk d pb ∧ dk e (pn side x y) ≤ dk e pb + dk d pb) := by
  have ht : ∀ {s k : Nat} {a : Int}, Wk (Stp side l) (cst l) s k a → Wk (Stp side l) (cst l) k s a := fun h => h.turn (fun _ _ => stp_back) (cst_back l)
  rcases hd.lab pb hb with h1 | ⟨_, w1⟩
  · omega
  · have f1 := fun h => he.along w1 h
    have f2 := fun h => he.along (ht w1) h
    exact ⟨⟨fun h => (f1 h).1, fun h => (f2 h).1⟩, fun h => ⟨(f1 h).2, (f2 (f1 h).1).2⟩⟩
theorem dk_low {side : Int} {l d : List Int} {x y : Int} (hd : GDist side l x y d) {k : Nat} (hk : k < l.length) : -1 ≤ dk d k ∧ (dk d k < 0 → dk d k = -1) := by
  rcases hd.lab k hk with h | ⟨h, _⟩
  · exact ⟨by omega, fun _ => h⟩
  · exact ⟨by omega, fun h' => absurd h' (by omega)⟩
theorem bnd_le {side : Int} {l d : List Int} {x y : Int} {D : Nat → List Int} {pb : Nat} (hr : gridRight side l = true) (hd : GDist side l x y d) (hb : pb < l.length) (ha : pn side x y < l.length) (hp : 0 ≤ dk d pb) :
    ∀ n, (∀ k, k < n → ∃ u v, GDist side l u v (D k)) → ∃ m, bndTo D (pn side x y) pb n = some m ∧ 0 ≤ m ∧ m ≤ dk d pb
  | 0, _ => ⟨0, rfl, Int.le_refl _, hp⟩
  | n + 1, hD => by
    obtain ⟨m, h1, h2, h3⟩ := bnd_le hr hd hb ha hp n fun k hk => hD k (by omega)
    obtain ⟨u, v, hg⟩ := hD n (by omega)
    obtain ⟨q1, q2⟩ := apart_le hr hd hg hb hp ha
    have hlo := dk_low hg ha
    have hlo2 := dk_low hg hb
    simp only [bndTo, h1, Option.bind_some]
    unfold bnd1
    by_cases hx : dk (D n) (pn side x y) < 0
    · have hy : dk (D n) pb < 0 := by
        rcases Int.lt_or_le (dk (D n) pb) 0 with h | h
        · exact h
        · have := q1.2 h; omega
      rw [decide_eq_true hx, decide_eq_true hy, if_neg (by simp), if_neg (by omega)]
      exact ⟨m, rfl, h2, h3⟩
    · have hx0 : 0 ≤ dk (D n) (pn side x y) := by omega
      have hy0 := q1.1 hx0
      obtain ⟨q3, q4⟩ := q2 hx0
      rw [decide_eq_false hx, decide_eq_false (show ¬ dk (D n) pb < 0 by omega), if_neg (by simp), if_pos hx0]
      split
      · exact ⟨_, rfl, by omega, by omega⟩
      · exact ⟨_, rfl, by omega, by omega⟩
theorem bnd_ge {D : Nat → List Int} {pa pb : Nat} : ∀ {n : Nat} {m : Int}, bndTo D pa pb n = some m → ∀ k, k < n → (0 ≤ dk (D k) pa ↔ 0 ≤ dk (D k) pb) ∧ (0 ≤ dk (D k) pa → dk (D k) pb - dk (D k) pa ≤ m ∧ dk (D k) pa - dk (D k) pb ≤ m)
  | 0, m, _, k, hk => absurd hk (Nat.not_lt_zero _)
  | n + 1, m, h, k, hk => by
    simp only [bndTo] at h
    cases hb : bndTo D pa pb n with
    | none => rw [hb] at h; cases h
    | some m0 =>
      rw [hb, Option.bind_some] at h
      have h0 := h
      unfold bnd1 at h
      split at h
      · cases h
      · next hne =>
        injection h with h
        have hmono : m0 ≤ m := by
          split at h
          · split at h <;> omega
          · omega
        by_cases hkn : k < n
        · obtain ⟨q1, q2⟩ := bnd_ge hb k hkn
          exact ⟨q1, fun hx => ⟨by have := (q2 hx).1; omega, by have := (q2 hx).2; omega⟩⟩
        · obtain rfl : k = n := by omega
          have heq : decide (dk (D k) pa < 0) = decide (dk (D k) pb < 0) := by simpa using hne
          refine ⟨?_, fun hx => ?_⟩
          · by_cases hx : dk (D k) pa < 0
            · rw [decide_eq_true hx] at heq
              have := of_decide_eq_true heq.symm
              omega
            · rw [decide_eq_false hx] at heq
              have := of_decide_eq_false heq.symm
              omega
          · rw [if_pos hx] at h
            split at h <;> omega
/-- What tables say is never more than the way costs. -/
theorem bound_le_dist {side : Int} {l : List Int} {T : List Pl} {L d : List Int} {ax ay bx b_y : Int} {D : Nat → List Int} (hD : IsB side l T D) (hd : (gridRight side l && opn side l ax ay) = true → GDist side l ax ay d) (h0 : 0 ≤ dOne side l ax ay bx b_y d) : boundOut side l T L ax ay bx b_y D ≤ dOne side l ax ay bx b_y d := by
  cases ho : (gridRight side l && opn side l ax ay && opn side l bx b_y)
  · unfold dOne at h0
    rw [ho] at h0
    exact absurd h0 (by simp)
  · have h' := ho
    simp only [Bool.and_eq_true] at h'
    obtain ⟨⟨hr, ha⟩, hb⟩ := h'
    have e : dOne side l ax ay bx b_y d = dk d (pn side bx b_y) := by unfold dOne; rw [ho]; rfl
    rw [e] at h0 ⊢
    unfold boundOut
    split
    · next hc =>
      simp only [Bool.and_eq_true, decide_eq_true_eq] at hc
      have hok := boundOut_ok (D := D) hc.2.1 hr
      unfold bakeOk at hok
      simp only [Bool.and_eq_true, decide_eq_true_eq, List.all_eq_true] at hok
      obtain ⟨m, h1, h2, h3⟩ := bnd_le hr (hd (by rw [hr, ha]; rfl)) (opn_parts hr hb).2.1 (opn_parts hr ha).2.1 h0 T.length fun k hk => ⟨_, _, hD k hk (by rw [hr, hok.2 _ (List.getElem_mem hk)]; rfl)⟩
      rw [h1]
      exact h3
    · omega
/-- Of two marks they say just what it is. -/
theorem bound_marks {side : Int} {l : List Int} {T : List Pl} {D : Nat → List Int} (hD : IsB side l T D) (hok : bakeOk side l T = true) {i k : Nat} (hi : i < T.length) (hk : k < T.length) : boundOut side l T (flatD D T.length) T[i].x T[i].y T[k].x T[k].y D = dOne side l T[i].x T[i].y T[k].x T[k].y (D i) := by
  have hok' := hok
  unfold bakeOk at hok'
  simp only [Bool.and_eq_true, decide_eq_true_eq, List.all_eq_true] at hok'
  obtain ⟨⟨hr, h4⟩, hall⟩ := hok'
  have ha := hall _ (List.getElem_mem hi)
  have hb := hall _ (List.getElem_mem hk)
  have hgi := hD i hi (by rw [hr, ha]; rfl)
  have e : dOne side l T[i].x T[i].y T[k].x T[k].y (D i) = dk (D i) (pn side T[k].x T[k].y) := by unfold dOne; rw [hr, ha, hb]; rfl
  have eb : boundOut side l T (flatD D T.length) T[i].x T[i].y T[k].x T[k].y D = (bndTo D (pn side T[i].x T[i].y) (pn side T[k].x T[k].y) T.length).getD (-1) := by
    unfold boundOut bakeM bakeD
    rw [hok, hr, (opn_parts hr ha).1, (opn_parts hr hb).1]
    simp
  rw [e, eb]
  have hpa := (opn_parts hr ha).2.1
  have hpb := (opn_parts hr hb).2.1
  have hsrc := hgi.src.2
  by_cases h0 : 0 ≤ dk (D i) (pn side T[k].x T[k].y)
  · obtain ⟨m, h1, h2, h3⟩ := bnd_le hr hgi hpb hpa h0 T.length fun j hj => ⟨_, _, hD j hj (by rw [hr, hall _ (List.getElem_mem hj)]; rfl)⟩
    have := (bnd_ge h1 i hi).2 (by omega)
    rw [h1]
    simp only [Option.getD_some]
    omega
  · have hm := (dk_low hgi hpb).2 (by omega)
    rw [hm]
    cases hbt : bndTo D (pn side T[i].x T[i].y) (pn side T[k].x T[k].y) T.length with
    | none => rfl
    | some m =>
      have := (bnd_ge hbt i hi).1
      omega
end Go.Proofs.Ytphkceiafehidaa

namespace Go.Proofs.Ytphkceiafehidaa
open Go.RowKit
set_option linter.unusedVariables false
set_option linter.unusedSimpArgs false

theorem OwnPl.rw {w : World} {base n c : Nat} {A : Option Addr} {l : List Pl} (h : OwnPl w base (.slice A n c) l) : Rw A c := by
  rcases h with ⟨_, ⟨h, _⟩ | ⟨g, cap, cur, h, _⟩⟩
  · injection h with h1 h2 h3
    exact .inl ⟨h1, h3⟩
  · injection h with h1 h2 h3
    exact .inr ⟨g, 0, h1⟩
theorem OwnI.capn {t : TypeId} {w : World} {base n c : Nat} {A : Option Addr} {l : List Int} (h : OwnI t .i64 w base (.slice A n c) l) : n ≤ c := by
  have hn := h.len
  rcases h with ⟨_, ⟨h, _⟩ | ⟨g, cap, cur, h, _, _, hc, _⟩⟩
  · injection h with h1 h2 h3
    omega
  · injection h with h1 h2 h3
    omega
theorem OwnI.head {t : TypeId} {w : World} {base n c : Nat} {A : Option Addr} {l : List Int} (h : OwnI t .i64 w base (.slice A n c) l) (h0 : 0 < l.length) : ∃ g, A = some ⟨g, 0, none⟩ := by
  have hn := h.len
  rcases h with ⟨_, ⟨h, e⟩ | ⟨g, cap, cur, h, _⟩⟩
  · omega
  · injection h with h1 h2 h3
    exact ⟨g, h1⟩
/-- Tables in their box q, made since block N, beside the map and the source. -/
structure DB (w W0 : World) (g o N q : Nat) (side : Int) (A : Option Addr) (c : Nat) (l : List Int) (AM : Option Addr) (cM : Nat) (T : List Pl) (AD : Option Addr) (cD : Nat) (L : List Int) (wr : World) : Prop where
  ex : EX w W0 g o side A c l wr
  low : g < N ∧ o < N ∧ ∀ k, (Value.slice A l.length c).ownBlock = some k → k < N
  tb : TB wr q (.slice AM T.length cM) (.slice AD L.length cD)
  hq : N ≤ q ∧ q < wr.heap.size
  oM : OwnPl wr N (.slice AM T.length cM) T
  oD : OwnI 2 .i64 wr N (.slice AD L.length cD) L
  ap : Apt (.slice AM T.length cM) (.slice AD L.length cD)
  aM : (Value.slice AM T.length cM).ownBlock ≠ some q
  aD : (Value.slice AD L.length cD).ownBlock ≠ some q
section
variable {w W0 wr wr' : World} {g o N q c cM cD : Nat} {side : Int} {A AM AD : Option Addr} {l L : List Int} {T : List Pl}
theorem DB.drew (h : DB w W0 g o N q side A c l AM cM T AD cD L wr) (hd : Drew wr g wr') : DB w W0 g o N q side A c l AM cM T AD cD L wr' := by
  obtain ⟨h1, h2, h3⟩ := h.low
  obtain ⟨q1, q2⟩ := h.hq
  exact ⟨h.ex.drew hd, h.low, h.tb.at_ (hd.2.block q q2 (fun e => by cases e; omega)), ⟨q1, Nat.lt_of_lt_of_le q2 hd.2.size⟩, h.oM.drewn hd h1, h.oD.drewn hd h1, h.ap, h.aM, h.aD⟩
theorem DB.below (h : DB w W0 g o N q side A c l AM cM T AD cD L wr) (hb : Below wr.heap.size wr wr') : DB w W0 g o N q side A c l AM cM T AD cD L wr' := by
  obtain ⟨q1, q2⟩ := h.hq
  exact ⟨h.ex.below hb, h.low, h.tb.at_ (hb.block q q2), ⟨q1, Nat.lt_of_lt_of_le q2 hb.size⟩, h.oM.keep hb, h.oD.keep hb, h.ap, h.aM, h.aD⟩
theorem EX.belowN (h : EX w W0 g o side A c l wr) (hb : Below N wr wr') (h1 : g < N) (h2 : o < N) (h3 : ∀ k, (Value.slice A l.length c).ownBlock = some k → k < N) : EX w W0 g o side A c l wr' := by
  obtain ⟨s1, s2, s3⟩ := h.siz
  refine ⟨fun k hk => (hb.block k (by omega)).trans (h.fr k hk), h.box.at5 (hb.block o h2), ?_, h.src.keep fun k hk => hb.block k (by omega), h.bel.trans (hb.mono (by omega)), s1, s2, Nat.lt_of_lt_of_le s3 hb.size⟩
  have := h.own
  rcases this with ⟨e1, ⟨e2, e3⟩ | ⟨b, cap, cur, e2, e3, e4, e5⟩⟩
  · exact ⟨e1, .inl ⟨e2, e3⟩⟩
  · have hbN : b < N := h3 b (by rw [e2]; rfl)
    exact ⟨e1, .inr ⟨b, cap, cur, e2, e3, (hb.block b hbN).trans e4, e5⟩⟩
theorem DB.store {b : Nat} (h : DB w W0 g o N q side A c l AM cM T (some ⟨b, 0, none⟩) cD L wr) (x : Int) : DB w W0 g o N q side A c l AM cM T (some ⟨b, 0, none⟩) cD (L.set 0 x) (wr.setCell ⟨b, 0, none⟩ (.int .i64 x)) := by
  obtain ⟨h1, h2, h3⟩ := h.low
  obtain ⟨q1, q2⟩ := h.hq
  have hbN : N ≤ b := (World.ownsRow.lt h.oD b rfl).1
  have hqb : q ≠ b := fun e => h.aD (by rw [e]; rfl)
  have hst := h.oD.store (j := 0) x
  have hbel : Below N wr (wr.setCell ⟨b, 0, none⟩ (.int .i64 x)) := (Below.refl _ _).setCell hbN _
  have hlen : (L.set 0 x).length = L.length := List.length_set
  rw [hlen.symm] at *
  refine ⟨h.ex.belowN hbel h1 h2 h3, h.low, ?_, ⟨q1, by simpa using q2⟩, ?_, ?_, ?_, h.aM, ?_⟩
  · have := h.tb.at_ (heap_setCell_other wr ⟨b, 0, none⟩ q (.int .i64 x) hqb)
    simpa using this
  · refine h.oM.kept hst.2 ?_
    cases e : (Value.slice AM T.length cM).ownBlock with
    | none => exact .inl rfl
    | some k => exact .inr fun e2 => h.ap k e (by simpa [Value.ownBlock] using e2.symm)
  · simpa using hst.1
  · intro k hk
    have := h.ap k hk
    simpa [Value.ownBlock] using this
  · have := h.aD
    simpa [Value.ownBlock] using this
theorem DB.new {v : World} (h : EX w W0 g o side A c l wr) (low : g < N ∧ o < N ∧ ∀ k, (Value.slice A l.length c).ownBlock = some k → k < N) (hN : N ≤ v.heap.size) (oM : OwnPl wr v.heap.size (.slice AM T.length cM) T) (oD : OwnI 2 .i64 wr v.heap.size (.slice AD L.length cD) L) (ap : Apt (.slice AM T.length cM) (.slice AD L.length cD)) (hz : v.heap.size ≤ wr.heap.size) :
    DB w W0 g o N wr.heap.size side A c l AM cM T AD cD L (wr.alloc (.cells #[.slice AM T.length cM, .slice AD L.length cD] 45)) := by
  have l1 := oM.lt
  have l2 := World.ownsRow.lt oD
  exact ⟨h.below (bel_A _ _), low, TB.made _ _ _ _, ⟨by omega, by simp⟩, OwnPl.lower hN (oM.alloc _), OwnI.lower hN (OwnI.alloc oD _), ap, fun e => by have := (l1 _ e).2; omega, fun e => by have := (l2 _ e).2; omega⟩
theorem DB.fill {v : World} (h : EX w W0 g o side A c l wr) (low : g < N ∧ o < N ∧ ∀ k, (Value.slice A l.length c).ownBlock = some k → k < N) (hN : N ≤ v.heap.size) (oM : OwnPl wr v.heap.size (.slice AM T.length cM) T) (oD : OwnI 2 .i64 wr v.heap.size (.slice AD L.length cD) L) (ap : Apt (.slice AM T.length cM) (.slice AD L.length cD)) (hz : v.heap.size ≤ wr.heap.size) (z : TB wr q (.slice none 0 0) (.slice none 0 0)) (hq : N ≤ q ∧ q < v.heap.size) :
    DB w W0 g o N q side A c l AM cM T AD cD L ((wr.setCell ⟨q, 0, none⟩ (.slice AM T.length cM)).setCell ⟨q, 1, none⟩ (.slice AD L.length cD)) := by
  have l1 := oM.lt
  have l2 := World.ownsRow.lt oD
  have hb : Below N wr ((wr.setCell ⟨q, 0, none⟩ (.slice AM T.length cM)).setCell ⟨q, 1, none⟩ (.slice AD L.length cD)) := ((Below.refl _ _).setCell hq.1 _).setCell hq.1 _
  have a0 : (wr.setCell ⟨q, 0, none⟩ (.slice AM T.length cM)).cell? ⟨q, 0, none⟩ = some (.slice AM T.length cM) := World.cell?_setCell_same _ _ _ z.c0
  have a1 : (wr.setCell ⟨q, 0, none⟩ (.slice AM T.length cM)).cell? ⟨q, 1, none⟩ = some (.slice none 0 0) := (World.cell?_setCell_other _ _ _ _ (by simp)).trans z.c1
  exact ⟨h.belowN hb low.1 low.2.1 low.2.2, low, ⟨(World.cell?_setCell_other _ _ _ _ (by simp)).trans a0, World.cell?_setCell_same _ _ _ a1, by simpa using z.f0, by simpa using z.f1⟩, ⟨hq.1, by simp; omega⟩,
    OwnPl.lower hN (OwnPl.set_below hq.2 _ (OwnPl.set_below hq.2 _ oM)), OwnI.lower hN (OwnI.set_below hq.2 _ (OwnI.set_below hq.2 _ oD)), ap, fun e => by have := (l1 _ e).1; omega, fun e => by have := (l2 _ e).1; omega⟩
end
def BoundArgs (w : World) (e : Ending) (w' : World) : Prop := ∃ (side : Int) (A : Option Addr) (c : Nat) (l : List Int) (AM : Option Addr) (cM : Nat) (T : List Pl) (AD : Option Addr) (cD : Nat) (L : List Int) (ax ay bx b_y : Int),
  e = .returned (.tuple #[.agg #[.int .i64 side, .slice A l.length c], .agg #[.slice AM T.length cM, .slice AD L.length cD], .agg #[.int .i64 ax, .int .i64 ay], .agg #[.int .i64 bx, .int .i64 b_y]]) ∧ (0 ≤ side ∧ side ≤ 10 ∧ l.length ≤ 65 ∧ ∀ n ∈ l, -1 ≤ n ∧ n ≤ 10) ∧ (T.length ≤ 4 ∧ ∀ p ∈ T, PlIn p.x p.y) ∧ L.length ≤ 256 ∧ (PlIn ax ay ∧ PlIn bx b_y) ∧ Rw AM cM ∧ L.length ≤ cD ∧ RI w' w'.heap.size A l ∧ RPl w' w'.heap.size AM T ∧ RI w' w'.heap.size AD L ∧ Below w.heap.size w w'

set_option maxRecDepth 100000 in
set_option maxHeartbeats 4000000 in
theorem drawBound_any (A : Option Addr) (n c : Nat) (w : World) (hn : n ≤ 1048576) (hin : BytesIn w w.heap.size A n) :
    Calls Try.prog 21 #[.slice A n c] w (BoundArgs w) := by
  obtain ⟨W0, HW⟩ : ∃ W0, W0 = ((((w.alloc (.cells #[.int .i64 0, .slice none 0 0] 25)).alloc (.cells #[.slice none 0 0, .slice none 0 0] 45)).alloc (.cells #[.int .i64 0, .int .i64 0] 27)).alloc (.cells #[.int .i64 0, .int .i64 0] 27)) := ⟨_, rfl⟩
  have HB0 : Hid (Below w.heap.size w W0) := by rw [HW]; exact bel_T (bel_A _ _) (bel_T (bel_A _ _) (bel_T (bel_A _ _) (bel_A _ _)))
  have HZ0 : Hid (W0.heap.size = w.heap.size + 1 + 1 + 1 + 1) := by rw [HW]; show _ = _; simp
  have HR0 : Hid (GB W0 (w.heap.size) 0 (.slice none 0 0) ∧ TB W0 (w.heap.size + 1) (.slice none 0 0) (.slice none 0 0) ∧ (PlB W0 (w.heap.size + 1 + 1) 0 0 ∧ W0.frozen? ⟨w.heap.size + 1 + 1, 0, none⟩ = false ∧ W0.frozen? ⟨w.heap.size + 1 + 1, 1, none⟩ = false) ∧ PlB W0 (w.heap.size + 1 + 1 + 1) 0 0 ∧ W0.frozen? ⟨w.heap.size + 1 + 1 + 1, 0, none⟩ = false ∧ W0.frozen? ⟨w.heap.size + 1 + 1 + 1, 1, none⟩ = false) := by
    rw [HW]
    exact ⟨⟨by simp [go_sem], by simp [go_sem], by simp [go_sem], by simp [go_sem]⟩, ⟨by simp [go_sem], by simp [go_sem], by simp [go_sem], by simp [go_sem]⟩, ⟨⟨by simp [go_sem], by simp [go_sem]⟩, by simp [go_sem], by simp [go_sem]⟩, ⟨by simp [go_sem], by simp [go_sem]⟩, by simp [go_sem], by simp [go_sem]⟩
  have HS := Lib.hid (source_any A n c W0 hn ((hin.below fun k hk => HB0.out.block k hk).mono HB0.out.size))
  clear hin
  go_enter Try.func21, Try.ntmps21
  go_upto_region 1 with fail
  rw [← HW]
  clear HW
  go_wp2_with fail
  refine HS.out.mono ?_
  rintro e w1 ⟨rfl, hs1, hb1⟩
  have hsl := hs1.lt
  have HS1 := Lib.hid hs1
  have HF1 : Hid (∀ k, k < W0.heap.size → w1.heap[k]? = W0.heap[k]?) := fun k hk => hb1.block k hk
  have HB1 := Lib.hid (HB0.out.trans (hb1.mono HB0.out.size))
  clear hs1 hb1 HB0 HS
  have HG : Hid (w.heap.size < W0.heap.size ∧ w.heap.size + 1 + 1 + 1 < W0.heap.size ∧ W0.heap.size < w1.heap.size) := ⟨by have := HZ0.out; omega, by have := HZ0.out; omega, hsl⟩
  clear hsl
  generalize W0.heap.size = g at *
  go_wp2_with fail
  refine (grid_any g w1 HS1.out).mono ?_
  rintro e w2 ⟨side, A2, c2, l2, rfl, hsm, ho2, hd2⟩
  have HX2 : Hid (EX w W0 g w2.heap.size side A2 c2 l2 (w2.alloc (.cells #[.int .i64 side, .slice A2 l2.length c2] 25))) := by
    obtain ⟨q1, q2, q3⟩ := HG.out
    have hb : Below w2.heap.size w2 (w2.alloc (.cells #[.int .i64 side, .slice A2 l2.length c2] 25)) := bel_A _ _
    have hzz := hd2.2.size
    exact ⟨fun k hk => ((hb.block k (by omega)).trans (hd2.2.block k (by omega) (fun e => by cases e; omega))).trans (HF1.out k hk), GB.made _ _ _ _, OwnI.lower (by omega) (ho2.alloc _), hd2.1.alloc _, (HB1.out.trans (hd2.below (by omega) (by omega))).trans (hb.mono (by omega)), by omega, by omega, by simp⟩
  have HSM := Lib.hid hsm
  have hl65 : l2.length ≤ 1000000000 := by have := hsm.2.2.1; omega
  clear hsm ho2 hd2 HF1 HS1 HB1 HZ0
  go_upto_region 3 with fail
  generalize w2.alloc (.cells #[.int .i64 side, .slice A2 l2.length c2] 25) = W3 at *
  generalize w2.heap.size = o at *
  have HSS : Hid (∀ v, EX w W0 g o side A2 c2 l2 v → v.cell? ⟨o, 0, none⟩ = some (.int .i64 side) ∧ v.cell? ⟨o, 1, none⟩ = some (.slice A2 l2.length c2)) := fun v h => ⟨h.box.c0, h.box.c1⟩
  have HLOW : Hid (g < W3.heap.size ∧ o < W3.heap.size ∧ ∀ k, (Value.slice A2 l2.length c2).ownBlock = some k → k < W3.heap.size) := by
    obtain ⟨s1, s2, s3⟩ := HX2.out.siz
    exact ⟨by omega, s3, fun k hk => (World.ownsRow.lt HX2.out.own k hk).2⟩
  go_cut [8] from 14 to 18 (fun cq wx => ∃ (q : Nat) (AM : Option Addr) (cM : Nat) (T : List Pl) (AD : Option Addr) (cD : Nat) (L : List Int), cq = .pointer (some ⟨q, 0, none⟩) ∧ Hid ((T.length ≤ 4 ∧ ∀ p ∈ T, PlIn p.x p.y) ∧ L.length ≤ 256) ∧ DB w W0 g o W3.heap.size q side A2 c2 l2 AM cM T AD cD L wx)
  case first => as_aux_lemma =>
    have q0 := HX2.out.below (bel_D _)
    have qZ := (HX2.out.below (bel_A W3 (.cells #[.slice none 0 0, .slice none 0 0] 45))).below (bel_D _)
    have zZ : TB (W3.alloc (.cells #[.slice none 0 0, .slice none 0 0] 45)).drew W3.heap.size (.slice none 0 0) (.slice none 0 0) := (TB.made W3 (.slice none 0 0) (.slice none 0 0) 45).at_ rfl
    have hlt3 : W3.heap.size < (W3.alloc (.cells #[.slice none 0 0, .slice none 0 0] 45)).drew.heap.size := by simp
    have hgW := HLOW.out.1
    have hoW := HLOW.out.2.1
    have hkeep := HSS.out _ q0
    go_region_held3 (fun w' => w'.cell? ⟨o, 0, none⟩ = some (.int .i64 side) ∧ w'.cell? ⟨o, 1, none⟩ = some (.slice A2 l2.length c2))
      (first
        | (with_reducible exact hkeep)
        | (with_reducible exact HSS.out _ qZ)
        | (with_reducible exact HSS.out _ (q1.below (bel_A _ _)))
        | (with_reducible exact HSS.out _ (q2.below (bel_A _ _)))
        | exact ⟨(far2 (by omega) _ _).trans hkeep.1, (far2 (by omega) _ _).trans hkeep.2⟩
        | go_keep)
      (first
        | (go_at_call 20; have _c := z1; clear _c; obtain ⟨D, hD⟩ := isb_any side l2 ms; refine (mBake_any side A2 c2 l2 b 0 cb ms D v1 q1.own.ri hrow.r hl65 (by omega) hD).mono ?_; rintro e v2 ⟨AM, cM, AD, cD, rfl, oM, oD, ap, hb⟩; have q2 := q1.below hb; have hkeep := HSS.out _ q2; have hz2 := hb.size; have hmM := bakeM_len side l2 ms; have hmD := bakeD_len hD; have hpT : ∀ p ∈ bakeM side l2 ms, PlIn p.x p.y := (by intro p hp; unfold bakeM at hp; split at hp; exact hmp p hp; cases hp); generalize bakeM side l2 ms = T at *; generalize bakeD side l2 ms D = L at *; have hw1 : W3.heap.size ≤ v1.heap.size := hv1; have z2 := z1.at_ (hb.block _ zlt); have zq := zlt; have hzq : W3.heap.size < v2.heap.size := Nat.lt_of_lt_of_le zlt hz2; obtain ⟨s0, s1, t0, t1⟩ := z2; clear hb)
        | (go_at_call 20; have _c := q1; clear _c; obtain ⟨D, hD⟩ := isb_any side l2 ms; refine (mBake_any side A2 c2 l2 b 0 cb ms D v1 q1.own.ri hrow.r hl65 (by omega) hD).mono ?_; rintro e v2 ⟨AM, cM, AD, cD, rfl, oM, oD, ap, hb⟩; have q2 := q1.below hb; have hkeep := HSS.out _ q2; have hz2 := hb.size; have hmM := bakeM_len side l2 ms; have hmD := bakeD_len hD; have hpT : ∀ p ∈ bakeM side l2 ms, PlIn p.x p.y := (by intro p hp; unfold bakeM at hp; split at hp; exact hmp p hp; cases hp); generalize bakeM side l2 ms = T at *; generalize bakeD side l2 ms D = L at *; have hw1 : W3.heap.size ≤ v1.heap.size := hv1; clear hb)
        | (go_at_call 20; have _c := q1; clear _c; have q1a := q1.below (bel_A v1 (.cells #[.slice none 0 0, .slice none 0 0] 45)); have hrow2 := hrow.alloc (.cells #[.slice none 0 0, .slice none 0 0] 45); obtain ⟨D, hD⟩ := isb_any side l2 ms; refine (mBake_any side A2 c2 l2 b 0 cb ms D (v1.alloc (.cells #[.slice none 0 0, .slice none 0 0] 45)) q1a.own.ri hrow2.r hl65 (by omega) hD).mono ?_; rintro e v2 ⟨AM, cM, AD, cD, rfl, oM, oD, ap, hb⟩; have q2 := q1a.below hb; have hkeep := HSS.out _ q2; have hz2 := hb.size; have hmM := bakeM_len side l2 ms; have hmD := bakeD_len hD; have hpT : ∀ p ∈ bakeM side l2 ms, PlIn p.x p.y := (by intro p hp; unfold bakeM at hp; split at hp; exact hmp p hp; cases hp); generalize bakeM side l2 ms = T at *; generalize bakeD side l2 ms D = L at *; have hw1 : W3.heap.size ≤ (v1.alloc (.cells #[.slice none 0 0, .slice none 0 0] 45)).heap.size := by simp; omega
           have zlt : v1.heap.size < (v1.alloc (.cells #[.slice none 0 0, .slice none 0 0] 45)).heap.size := by simp
           have z2 := (TB.made v1 (.slice none 0 0) (.slice none 0 0) 45).at_ (hb.block _ zlt); have hzq : v1.heap.size < v2.heap.size := by omega
           obtain ⟨s0, s1, t0, t1⟩ := z2; clear hb)
        | (go_at_call 49; refine (marks_any g side A2 c2 l2 _ (by with_reducible exact q0.src) (by with_reducible exact q0.own) hl65).mono ?_; rintro e v1 ⟨b, cb, ms, rfl, hml, hmp, hrow, hd⟩; have q1 := q0.drew hd; have hkeep := HSS.out _ q1; have hv1 : W3.heap.size ≤ v1.heap.size := Nat.le_trans (Nat.le_refl _) hd.2.size; clear hd)
        | (go_at_call 49; refine (marks_any g side A2 c2 l2 _ (by with_reducible exact qZ.src) (by with_reducible exact qZ.own) hl65).mono ?_; rintro e v1 ⟨b, cb, ms, rfl, hml, hmp, hrow, hd⟩; have q1 := qZ.drew hd; have hkeep := HSS.out _ q1; have hv1 : W3.heap.size ≤ v1.heap.size := Nat.le_trans (Nat.le_of_lt hlt3) hd.2.size; have z1 := zZ.at_ (hd.2.block _ hlt3 (fun e => by cases e; omega)); have zlt := Nat.lt_of_lt_of_le hlt3 hd.2.size; clear hd))
    all_goals
      clear hkeep
      go_wp2_with fail
      go_meet
      first
        | exact ⟨_, AM, cM, T, AD, cD, L, rfl, ⟨⟨hmM, hpT⟩, hmD⟩, DB.new (v := v1) q2 HLOW.out hw1 oM oD ap hz2⟩
        | exact ⟨_, AM, cM, T, AD, cD, L, rfl, ⟨⟨hmM, hpT⟩, hmD⟩, DB.fill (v := v1) q2 HLOW.out hw1 oM oD ap hz2 ⟨s0, s1, t0, t1⟩ ⟨Nat.le_refl _, zq⟩⟩
        | exact ⟨_, AM, cM, T, AD, cD, L, rfl, ⟨⟨hmM, hpT⟩, hmD⟩, DB.fill q2 HLOW.out hw1 oM oD ap hz2 ⟨s0, s1, t0, t1⟩ ⟨hv1, zlt⟩⟩
  case rest =>
    obtain ⟨q, AM, cM, T, AD, cD, L, rfl, HT, hdb⟩ := hcut
    have HX4 := Lib.hid hdb
    clear hdb HX2 HLOW HSS
    obtain ⟨s0, s1, _, _⟩ := HX4.out.tb
    go_wp2_with fail
    refine (src_one g 8 wc HX4.out.ex.src (by omega)).mono ?_
    rintro e w5 ⟨⟨bb, rfl⟩, hd⟩
    have HX5 := Lib.hid (HX4.out.drew hd)
    clear hd s0 s1 HX4
    obtain ⟨s0, s1, _, _⟩ := HX5.out.tb
    cases bb
    · obtain ⟨c0, c1, _, _⟩ := HX5.out.ex.box
      go_wp2_with fail
      have HX6 := HX5
      have HL6 : L.length ≤ 256 := HT.out.2
      clear HX5 s0 s1
      refine (place_any g side A2 l2.length c2 _ HX6.out.ex.src).mono ?_
      rintro e w7 ⟨ax, ay, rfl, hax, hd⟩
      have HX7 := Lib.hid ((HX6.out.drew hd).below (bel_A w7 (.cells #[.int .i64 ax, .int .i64 ay] 27)))
      have HP7 := Lib.hid (PlB.made w7 ax ay 27)
      have hz7 := hd.2.size
      have HZ7 : Hid (g < w7.heap.size ∧ o < w7.heap.size ∧ q < w7.heap.size ∧ w7.heap.size < (w7.alloc (.cells #[.int .i64 ax, .int .i64 ay] 27)).heap.size) := by have h1 := HX6.out.hq; have h2 := HX6.out.low; exact ⟨by omega, by omega, by omega, by simp⟩
      have HAX := Lib.hid hax
      clear hd hz7 HX6 c0 c1 hax
      go_upto_region 7 with fail
      generalize w7.alloc (.cells #[.int .i64 ax, .int .i64 ay] 27) = W8 at *
      generalize w7.heap.size = o2 at *
      have HSS : Hid (∀ w', DB w W0 g o W3.heap.size q side A2 c2 l2 AM cM T AD cD L w' → PlB w' o2 ax ay → w'.cell? ⟨o, 0, none⟩ = some (.int .i64 side) ∧ w'.cell? ⟨o, 1, none⟩ = some (.slice A2 l2.length c2) ∧ w'.cell? ⟨q, 0, none⟩ = some (.slice AM T.length cM) ∧ w'.cell? ⟨q, 1, none⟩ = some (.slice AD L.length cD) ∧ w'.cell? ⟨o2, 0, none⟩ = some (.int .i64 ax) ∧ w'.cell? ⟨o2, 1, none⟩ = some (.int .i64 ay)) := fun v h hp => ⟨h.ex.box.c0, h.ex.box.c1, h.tb.c0, h.tb.c1, hp.c0, hp.c1⟩
      have q0 := HX7.out.below (bel_D _)
      have p0 := HP7.out.below (bel_D W8) HZ7.out.2.2.2
      have hkeep := HSS.out _ q0 p0
      have hn1 : w.heap.size + 1 + 1 + 1 < g ∧ g < o ∧ g < o2 ∧ g < W3.heap.size ∧ W3.heap.size ≤ q := ⟨HG.out.2.1, HX7.out.ex.siz.2.1, HZ7.out.1, HX7.out.low.1, HX7.out.hq.1⟩
      go_region_held3 (fun w' => w'.cell? ⟨o, 0, none⟩ = some (.int .i64 side) ∧ w'.cell? ⟨o, 1, none⟩ = some (.slice A2 l2.length c2) ∧ w'.cell? ⟨q, 0, none⟩ = some (.slice AM T.length cM) ∧ w'.cell? ⟨q, 1, none⟩ = some (.slice AD L.length cD) ∧ w'.cell? ⟨o2, 0, none⟩ = some (.int .i64 ax) ∧ w'.cell? ⟨o2, 1, none⟩ = some (.int .i64 ay))
        (first | (with_reducible exact hkeep) | (with_reducible exact ⟨((far2 (by omega) _ _).trans (hkeep.1)), ((far2 (by omega) _ _).trans (hkeep.2.1)), ((far2 (by omega) _ _).trans (hkeep.2.2.1)), ((far2 (by omega) _ _).trans (hkeep.2.2.2.1)), ((far2 (by omega) _ _).trans (hkeep.2.2.2.2.1)), ((far2 (by omega) _ _).trans (hkeep.2.2.2.2.2))⟩) | (with_reducible exact ⟨((far2 (by omega) _ _).trans ((far2 (by omega) _ _).trans (hkeep.1))), ((far2 (by omega) _ _).trans ((far2 (by omega) _ _).trans (hkeep.2.1))), ((far2 (by omega) _ _).trans ((far2 (by omega) _ _).trans (hkeep.2.2.1))), ((far2 (by omega) _ _).trans ((far2 (by omega) _ _).trans (hkeep.2.2.2.1))), ((far2 (by omega) _ _).trans ((far2 (by omega) _ _).trans (hkeep.2.2.2.2.1))), ((far2 (by omega) _ _).trans ((far2 (by omega) _ _).trans (hkeep.2.2.2.2.2)))⟩) | (with_reducible exact ⟨((far2 (by omega) _ _).trans ((far2 (by omega) _ _).trans ((far2 (by omega) _ _).trans (hkeep.1)))), ((far2 (by omega) _ _).trans ((far2 (by omega) _ _).trans ((far2 (by omega) _ _).trans (hkeep.2.1)))), ((far2 (by omega) _ _).trans ((far2 (by omega) _ _).trans ((far2 (by omega) _ _).trans (hkeep.2.2.1)))), ((far2 (by omega) _ _).trans ((far2 (by omega) _ _).trans ((far2 (by omega) _ _).trans (hkeep.2.2.2.1)))), ((far2 (by omega) _ _).trans ((far2 (by omega) _ _).trans ((far2 (by omega) _ _).trans (hkeep.2.2.2.2.1)))), ((far2 (by omega) _ _).trans ((far2 (by omega) _ _).trans ((far2 (by omega) _ _).trans (hkeep.2.2.2.2.2))))⟩) | (with_reducible exact ⟨((far2 (by omega) _ _).trans ((far2 (by omega) _ _).trans ((far2 (by omega) _ _).trans ((far2 (by omega) _ _).trans (hkeep.1))))), ((far2 (by omega) _ _).trans ((far2 (by omega) _ _).trans ((far2 (by omega) _ _).trans ((far2 (by omega) _ _).trans (hkeep.2.1))))), ((far2 (by omega) _ _).trans ((far2 (by omega) _ _).trans ((far2 (by omega) _ _).trans ((far2 (by omega) _ _).trans (hkeep.2.2.1))))), ((far2 (by omega) _ _).trans ((far2 (by omega) _ _).trans ((far2 (by omega) _ _).trans ((far2 (by omega) _ _).trans (hkeep.2.2.2.1))))), ((far2 (by omega) _ _).trans ((far2 (by omega) _ _).trans ((far2 (by omega) _ _).trans ((far2 (by omega) _ _).trans (hkeep.2.2.2.2.1))))), ((far2 (by omega) _ _).trans ((far2 (by omega) _ _).trans ((far2 (by omega) _ _).trans ((far2 (by omega) _ _).trans (hkeep.2.2.2.2.2)))))⟩) | go_keep)
        (first | (go_at_call 40; refine (place_any g side A2 l2.length c2 _ (by with_reducible exact q0.ex.src)).mono ?_; rintro e v1 ⟨bx, b_y, rfl, hbx, hd⟩; have q1 := q0.drew hd; have p1 := p0.drewn hd (by omega) (by have := HZ7.out.2.2.2; exact this); have hkeep := HSS.out _ q1 p1; have hr0 : v1.heap[w.heap.size]? = W0.heap[w.heap.size]? := q1.ex.fr _ (by omega); have z00 := (World.cell?_of_block (a := ⟨w.heap.size, 0, none⟩) hr0).trans HR0.out.1.c0; have z01 := (World.cell?_of_block (a := ⟨w.heap.size, 1, none⟩) hr0).trans HR0.out.1.c1; have z02 := (World.frozen?_of_block (a := ⟨w.heap.size, 0, none⟩) hr0).trans HR0.out.1.f0; have z03 := (World.frozen?_of_block (a := ⟨w.heap.size, 1, none⟩) hr0).trans HR0.out.1.f1; clear hr0; have hr1 : v1.heap[w.heap.size + 1]? = W0.heap[w.heap.size + 1]? := q1.ex.fr _ (by omega); have z10 := (World.cell?_of_block (a := ⟨w.heap.size + 1, 0, none⟩) hr1).trans HR0.out.2.1.c0; have z11 := (World.cell?_of_block (a := ⟨w.heap.size + 1, 1, none⟩) hr1).trans HR0.out.2.1.c1; have z12 := (World.frozen?_of_block (a := ⟨w.heap.size + 1, 0, none⟩) hr1).trans HR0.out.2.1.f0; have z13 := (World.frozen?_of_block (a := ⟨w.heap.size + 1, 1, none⟩) hr1).trans HR0.out.2.1.f1; clear hr1; have hr2 : v1.heap[w.heap.size + 1 + 1]? = W0.heap[w.heap.size + 1 + 1]? := q1.ex.fr _ (by omega); have z20 := (World.cell?_of_block (a := ⟨w.heap.size + 1 + 1, 0, none⟩) hr2).trans HR0.out.2.2.1.1.c0; have z21 := (World.cell?_of_block (a := ⟨w.heap.size + 1 + 1, 1, none⟩) hr2).trans HR0.out.2.2.1.1.c1; have z22 := (World.frozen?_of_block (a := ⟨w.heap.size + 1 + 1, 0, none⟩) hr2).trans HR0.out.2.2.1.2.1; have z23 := (World.frozen?_of_block (a := ⟨w.heap.size + 1 + 1, 1, none⟩) hr2).trans HR0.out.2.2.1.2.2; clear hr2; have hr3 : v1.heap[w.heap.size + 1 + 1 + 1]? = W0.heap[w.heap.size + 1 + 1 + 1]? := q1.ex.fr _ (by omega); have z30 := (World.cell?_of_block (a := ⟨w.heap.size + 1 + 1 + 1, 0, none⟩) hr3).trans HR0.out.2.2.2.1.c0; have z31 := (World.cell?_of_block (a := ⟨w.heap.size + 1 + 1 + 1, 1, none⟩) hr3).trans HR0.out.2.2.2.1.c1; have z32 := (World.frozen?_of_block (a := ⟨w.heap.size + 1 + 1 + 1, 0, none⟩) hr3).trans HR0.out.2.2.2.2.1; have z33 := (World.frozen?_of_block (a := ⟨w.heap.size + 1 + 1 + 1, 1, none⟩) hr3).trans HR0.out.2.2.2.2.2; clear hr3; clear hd))
      all_goals
        have Q1 := Lib.hid q1
        clear hkeep q0 q1 p0 p1
        go_wp2_with fail
        refine bodyPost_ret (v := .tuple #[.agg #[.int .i64 side, .slice A2 l2.length c2], .agg #[.slice AM T.length cM, .slice AD L.length cD], .agg #[.int .i64 ax, .int .i64 ay], .agg #[.int .i64 bx, .int .i64 b_y]]) (by simp [results, Try.results21, go_sem, z00, z01, z10, z11, z20, z21, z30, z31]) rfl ?_
        refine ⟨side, A2, c2, l2, AM, cM, T, AD, cD, L, ax, ay, bx, b_y, rfl, HSM.out, HT.out.1, HL6, ⟨HAX.out, hbx⟩, Q1.out.oM.rw, Q1.out.oD.capn, OwnI.ri (e := 2) (base := g + 1) (n := l2.length) (c := c2) ?_, OwnPl.r (base := W3.heap.size) (n := T.length) (c := cM) ?_, OwnI.ri (e := 2) (base := W3.heap.size) (n := L.length) (c := cD) ?_, ?_⟩
        · repeat (refine OwnI.set_below (by dsimp only; omega) _ ?_)
          exact Q1.out.ex.own
        · repeat (refine OwnPl.set_below (by dsimp only; omega) _ ?_)
          exact Q1.out.oM
        · repeat (refine OwnI.set_below (by dsimp only; omega) _ ?_)
          exact Q1.out.oD
        · repeat (refine Below.setCell ?_ (by dsimp only; omega) _)
          exact Q1.out.ex.bel
    by_cases hL0 : 0 < L.length
    · obtain ⟨gb, rfl, _, hgl, hc, hf⟩ := HX5.out.oD.at_ hL0
      have hL0I : (0 : Int) < (L.length : Int) := by omega
      have hdd : decide ((0 : Int) < (L.length : Int)) = true := by simpa using hL0
      have hqb : ¬ q = gb := fun e => HX5.out.aD (by rw [e]; rfl)
      have hob : ¬ o = gb := fun e => by have h1 := (World.ownsRow.lt HX5.out.oD gb rfl).1; have h2 := HX5.out.low.2.1; omega
      have HSTO : Hid (∀ x, ∃ L6 : List Int, L6.length ≤ 256 ∧ DB w W0 g o W3.heap.size q side A2 c2 l2 AM cM T (some ⟨gb, 0, none⟩) cD L6 (w5.setCell ⟨gb, 0, none⟩ (.int .i64 x)).drew ∧ L6.length = L.length) := fun x => ⟨L.set 0 x, by rw [List.length_set]; exact HT.out.2, (HX5.out.store x).below (bel_D _), List.length_set⟩
      generalize L[0] = x0 at hc
      obtain ⟨c0, c1, _, _⟩ := HX5.out.ex.box
      go_wp2_with fail
      go_region
      go_wp2_with fail
      obtain ⟨L6, HL6, hx6, hlen6⟩ := HSTO.out (wrap64 (x0 + 1))
      have HX6 := Lib.hid hx6
      clear HSTO hx6 s0 s1 hc hf HX5 hL0I hdd hL0 hqb hob hgl
      generalize (w5.setCell ⟨gb, 0, none⟩ (.int .i64 (wrap64 (x0 + 1)))).drew = w6 at HX6 ⊢
      clear hlen6
      refine (place_any g side A2 l2.length c2 _ HX6.out.ex.src).mono ?_
      rintro e w7 ⟨ax, ay, rfl, hax, hd⟩
      have HX7 := Lib.hid ((HX6.out.drew hd).below (bel_A w7 (.cells #[.int .i64 ax, .int .i64 ay] 27)))
      have HP7 := Lib.hid (PlB.made w7 ax ay 27)
      have hz7 := hd.2.size
      have HZ7 : Hid (g < w7.heap.size ∧ o < w7.heap.size ∧ q < w7.heap.size ∧ w7.heap.size < (w7.alloc (.cells #[.int .i64 ax, .int .i64 ay] 27)).heap.size) := by have h1 := HX6.out.hq; have h2 := HX6.out.low; exact ⟨by omega, by omega, by omega, by simp⟩
      have HAX := Lib.hid hax
      clear hd hz7 HX6 c0 c1 hax
      go_upto_region 7 with fail
      generalize w7.alloc (.cells #[.int .i64 ax, .int .i64 ay] 27) = W8 at *
      generalize w7.heap.size = o2 at *
      have HSS : Hid (∀ w', DB w W0 g o W3.heap.size q side A2 c2 l2 AM cM T (some ⟨gb, 0, none⟩) cD L6 w' → PlB w' o2 ax ay → w'.cell? ⟨o, 0, none⟩ = some (.int .i64 side) ∧ w'.cell? ⟨o, 1, none⟩ = some (.slice A2 l2.length c2) ∧ w'.cell? ⟨q, 0, none⟩ = some (.slice AM T.length cM) ∧ w'.cell? ⟨q, 1, none⟩ = some (.slice (some ⟨gb, 0, none⟩) L6.length cD) ∧ w'.cell? ⟨o2, 0, none⟩ = some (.int .i64 ax) ∧ w'.cell? ⟨o2, 1, none⟩ = some (.int .i64 ay)) := fun v h hp => ⟨h.ex.box.c0, h.ex.box.c1, h.tb.c0, h.tb.c1, hp.c0, hp.c1⟩
      have q0 := HX7.out.below (bel_D _)
      have p0 := HP7.out.below (bel_D W8) HZ7.out.2.2.2
      have hkeep := HSS.out _ q0 p0
      have hn1 : w.heap.size + 1 + 1 + 1 < g ∧ g < o ∧ g < o2 ∧ g < W3.heap.size ∧ W3.heap.size ≤ q := ⟨HG.out.2.1, HX7.out.ex.siz.2.1, HZ7.out.1, HX7.out.low.1, HX7.out.hq.1⟩
      go_region_held3 (fun w' => w'.cell? ⟨o, 0, none⟩ = some (.int .i64 side) ∧ w'.cell? ⟨o, 1, none⟩ = some (.slice A2 l2.length c2) ∧ w'.cell? ⟨q, 0, none⟩ = some (.slice AM T.length cM) ∧ w'.cell? ⟨q, 1, none⟩ = some (.slice (some ⟨gb, 0, none⟩) L6.length cD) ∧ w'.cell? ⟨o2, 0, none⟩ = some (.int .i64 ax) ∧ w'.cell? ⟨o2, 1, none⟩ = some (.int .i64 ay))
        (first | (with_reducible exact hkeep) | (with_reducible exact ⟨((far2 (by omega) _ _).trans (hkeep.1)), ((far2 (by omega) _ _).trans (hkeep.2.1)), ((far2 (by omega) _ _).trans (hkeep.2.2.1)), ((far2 (by omega) _ _).trans (hkeep.2.2.2.1)), ((far2 (by omega) _ _).trans (hkeep.2.2.2.2.1)), ((far2 (by omega) _ _).trans (hkeep.2.2.2.2.2))⟩) | (with_reducible exact ⟨((far2 (by omega) _ _).trans ((far2 (by omega) _ _).trans (hkeep.1))), ((far2 (by omega) _ _).trans ((far2 (by omega) _ _).trans (hkeep.2.1))), ((far2 (by omega) _ _).trans ((far2 (by omega) _ _).trans (hkeep.2.2.1))), ((far2 (by omega) _ _).trans ((far2 (by omega) _ _).trans (hkeep.2.2.2.1))), ((far2 (by omega) _ _).trans ((far2 (by omega) _ _).trans (hkeep.2.2.2.2.1))), ((far2 (by omega) _ _).trans ((far2 (by omega) _ _).trans (hkeep.2.2.2.2.2)))⟩) | (with_reducible exact ⟨((far2 (by omega) _ _).trans ((far2 (by omega) _ _).trans ((far2 (by omega) _ _).trans (hkeep.1)))), ((far2 (by omega) _ _).trans ((far2 (by omega) _ _).trans ((far2 (by omega) _ _).trans (hkeep.2.1)))), ((far2 (by omega) _ _).trans ((far2 (by omega) _ _).trans ((far2 (by omega) _ _).trans (hkeep.2.2.1)))), ((far2 (by omega) _ _).trans ((far2 (by omega) _ _).trans ((far2 (by omega) _ _).trans (hkeep.2.2.2.1)))), ((far2 (by omega) _ _).trans ((far2 (by omega) _ _).trans ((far2 (by omega) _ _).trans (hkeep.2.2.2.2.1)))), ((far2 (by omega) _ _).trans ((far2 (by omega) _ _).trans ((far2 (by omega) _ _).trans (hkeep.2.2.2.2.2))))⟩) | (with_reducible exact ⟨((far2 (by omega) _ _).trans ((far2 (by omega) _ _).trans ((far2 (by omega) _ _).trans ((far2 (by omega) _ _).trans (hkeep.1))))), ((far2 (by omega) _ _).trans ((far2 (by omega) _ _).trans ((far2 (by omega) _ _).trans ((far2 (by omega) _ _).trans (hkeep.2.1))))), ((far2 (by omega) _ _).trans ((far2 (by omega) _ _).trans ((far2 (by omega) _ _).trans ((far2 (by omega) _ _).trans (hkeep.2.2.1))))), ((far2 (by omega) _ _).trans ((far2 (by omega) _ _).trans ((far2 (by omega) _ _).trans ((far2 (by omega) _ _).trans (hkeep.2.2.2.1))))), ((far2 (by omega) _ _).trans ((far2 (by omega) _ _).trans ((far2 (by omega) _ _).trans ((far2 (by omega) _ _).trans (hkeep.2.2.2.2.1))))), ((far2 (by omega) _ _).trans ((far2 (by omega) _ _).trans ((far2 (by omega) _ _).trans ((far2 (by omega) _ _).trans (hkeep.2.2.2.2.2)))))⟩) | go_keep)
        (first | (go_at_call 40; refine (place_any g side A2 l2.length c2 _ (by with_reducible exact q0.ex.src)).mono ?_; rintro e v1 ⟨bx, b_y, rfl, hbx, hd⟩; have q1 := q0.drew hd; have p1 := p0.drewn hd (by omega) (by have := HZ7.out.2.2.2; exact this); have hkeep := HSS.out _ q1 p1; have hr0 : v1.heap[w.heap.size]? = W0.heap[w.heap.size]? := q1.ex.fr _ (by omega); have z00 := (World.cell?_of_block (a := ⟨w.heap.size, 0, none⟩) hr0).trans HR0.out.1.c0; have z01 := (World.cell?_of_block (a := ⟨w.heap.size, 1, none⟩) hr0).trans HR0.out.1.c1; have z02 := (World.frozen?_of_block (a := ⟨w.heap.size, 0, none⟩) hr0).trans HR0.out.1.f0; have z03 := (World.frozen?_of_block (a := ⟨w.heap.size, 1, none⟩) hr0).trans HR0.out.1.f1; clear hr0; have hr1 : v1.heap[w.heap.size + 1]? = W0.heap[w.heap.size + 1]? := q1.ex.fr _ (by omega); have z10 := (World.cell?_of_block (a := ⟨w.heap.size + 1, 0, none⟩) hr1).trans HR0.out.2.1.c0; have z11 := (World.cell?_of_block (a := ⟨w.heap.size + 1, 1, none⟩) hr1).trans HR0.out.2.1.c1; have z12 := (World.frozen?_of_block (a := ⟨w.heap.size + 1, 0, none⟩) hr1).trans HR0.out.2.1.f0; have z13 := (World.frozen?_of_block (a := ⟨w.heap.size + 1, 1, none⟩) hr1).trans HR0.out.2.1.f1; clear hr1; have hr2 : v1.heap[w.heap.size + 1 + 1]? = W0.heap[w.heap.size + 1 + 1]? := q1.ex.fr _ (by omega); have z20 := (World.cell?_of_block (a := ⟨w.heap.size + 1 + 1, 0, none⟩) hr2).trans HR0.out.2.2.1.1.c0; have z21 := (World.cell?_of_block (a := ⟨w.heap.size + 1 + 1, 1, none⟩) hr2).trans HR0.out.2.2.1.1.c1; have z22 := (World.frozen?_of_block (a := ⟨w.heap.size + 1 + 1, 0, none⟩) hr2).trans HR0.out.2.2.1.2.1; have z23 := (World.frozen?_of_block (a := ⟨w.heap.size + 1 + 1, 1, none⟩) hr2).trans HR0.out.2.2.1.2.2; clear hr2; have hr3 : v1.heap[w.heap.size + 1 + 1 + 1]? = W0.heap[w.heap.size + 1 + 1 + 1]? := q1.ex.fr _ (by omega); have z30 := (World.cell?_of_block (a := ⟨w.heap.size + 1 + 1 + 1, 0, none⟩) hr3).trans HR0.out.2.2.2.1.c0; have z31 := (World.cell?_of_block (a := ⟨w.heap.size + 1 + 1 + 1, 1, none⟩) hr3).trans HR0.out.2.2.2.1.c1; have z32 := (World.frozen?_of_block (a := ⟨w.heap.size + 1 + 1 + 1, 0, none⟩) hr3).trans HR0.out.2.2.2.2.1; have z33 := (World.frozen?_of_block (a := ⟨w.heap.size + 1 + 1 + 1, 1, none⟩) hr3).trans HR0.out.2.2.2.2.2; clear hr3; clear hd))
      all_goals
        have Q1 := Lib.hid q1
        clear hkeep q0 q1 p0 p1
        go_wp2_with fail
        refine bodyPost_ret (v := .tuple #[.agg #[.int .i64 side, .slice A2 l2.length c2], .agg #[.slice AM T.length cM, .slice (some ⟨gb, 0, none⟩) L6.length cD], .agg #[.int .i64 ax, .int .i64 ay], .agg #[.int .i64 bx, .int .i64 b_y]]) (by simp [results, Try.results21, go_sem, z00, z01, z10, z11, z20, z21, z30, z31]) rfl ?_
        refine ⟨side, A2, c2, l2, AM, cM, T, some ⟨gb, 0, none⟩, cD, L6, ax, ay, bx, b_y, rfl, HSM.out, HT.out.1, HL6, ⟨HAX.out, hbx⟩, Q1.out.oM.rw, Q1.out.oD.capn, OwnI.ri (e := 2) (base := g + 1) (n := l2.length) (c := c2) ?_, OwnPl.r (base := W3.heap.size) (n := T.length) (c := cM) ?_, OwnI.ri (e := 2) (base := W3.heap.size) (n := L6.length) (c := cD) ?_, ?_⟩
        · repeat (refine OwnI.set_below (by dsimp only; omega) _ ?_)
          exact Q1.out.ex.own
        · repeat (refine OwnPl.set_below (by dsimp only; omega) _ ?_)
          exact Q1.out.oM
        · repeat (refine OwnI.set_below (by dsimp only; omega) _ ?_)
          exact Q1.out.oD
        · repeat (refine Below.setCell ?_ (by dsimp only; omega) _)
          exact Q1.out.ex.bel
    · have hdd : decide ((0 : Int) < (L.length : Int)) = false := by simpa using hL0
      have hL1 : (L.length : Int) = 0 := by omega
      obtain ⟨c0, c1, _, _⟩ := HX5.out.ex.box
      go_wp2_with fail
      have HX6 := HX5
      have HL6 : L.length ≤ 256 := HT.out.2
      clear HX5 s0 s1
      refine (place_any g side A2 l2.length c2 _ HX6.out.ex.src).mono ?_
      rintro e w7 ⟨ax, ay, rfl, hax, hd⟩
      have HX7 := Lib.hid ((HX6.out.drew hd).below (bel_A w7 (.cells #[.int .i64 ax, .int .i64 ay] 27)))
      have HP7 := Lib.hid (PlB.made w7 ax ay 27)
      have hz7 := hd.2.size
      have HZ7 : Hid (g < w7.heap.size ∧ o < w7.heap.size ∧ q < w7.heap.size ∧ w7.heap.size < (w7.alloc (.cells #[.int .i64 ax, .int .i64 ay] 27)).heap.size) := by have h1 := HX6.out.hq; have h2 := HX6.out.low; exact ⟨by omega, by omega, by omega, by simp⟩
      have HAX := Lib.hid hax
      clear hd hz7 HX6 c0 c1 hax
      go_upto_region 7 with fail
      generalize w7.alloc (.cells #[.int .i64 ax, .int .i64 ay] 27) = W8 at *
      generalize w7.heap.size = o2 at *
      have HSS : Hid (∀ w', DB w W0 g o W3.heap.size q side A2 c2 l2 AM cM T AD cD L w' → PlB w' o2 ax ay → w'.cell? ⟨o, 0, none⟩ = some (.int .i64 side) ∧ w'.cell? ⟨o, 1, none⟩ = some (.slice A2 l2.length c2) ∧ w'.cell? ⟨q, 0, none⟩ = some (.slice AM T.length cM) ∧ w'.cell? ⟨q, 1, none⟩ = some (.slice AD L.length cD) ∧ w'.cell? ⟨o2, 0, none⟩ = some (.int .i64 ax) ∧ w'.cell? ⟨o2, 1, none⟩ = some (.int .i64 ay)) := fun v h hp => ⟨h.ex.box.c0, h.ex.box.c1, h.tb.c0, h.tb.c1, hp.c0, hp.c1⟩
      have q0 := HX7.out.below (bel_D _)
      have p0 := HP7.out.below (bel_D W8) HZ7.out.2.2.2
      have hkeep := HSS.out _ q0 p0
      have hn1 : w.heap.size + 1 + 1 + 1 < g ∧ g < o ∧ g < o2 ∧ g < W3.heap.size ∧ W3.heap.size ≤ q := ⟨HG.out.2.1, HX7.out.ex.siz.2.1, HZ7.out.1, HX7.out.low.1, HX7.out.hq.1⟩
      go_region_held3 (fun w' => w'.cell? ⟨o, 0, none⟩ = some (.int .i64 side) ∧ w'.cell? ⟨o, 1, none⟩ = some (.slice A2 l2.length c2) ∧ w'.cell? ⟨q, 0, none⟩ = some (.slice AM T.length cM) ∧ w'.cell? ⟨q, 1, none⟩ = some (.slice AD L.length cD) ∧ w'.cell? ⟨o2, 0, none⟩ = some (.int .i64 ax) ∧ w'.cell? ⟨o2, 1, none⟩ = some (.int .i64 ay))
        (first | (with_reducible exact hkeep) | (with_reducible exact ⟨((far2 (by omega) _ _).trans (hkeep.1)), ((far2 (by omega) _ _).trans (hkeep.2.1)), ((far2 (by omega) _ _).trans (hkeep.2.2.1)), ((far2 (by omega) _ _).trans (hkeep.2.2.2.1)), ((far2 (by omega) _ _).trans (hkeep.2.2.2.2.1)), ((far2 (by omega) _ _).trans (hkeep.2.2.2.2.2))⟩) | (with_reducible exact ⟨((far2 (by omega) _ _).trans ((far2 (by omega) _ _).trans (hkeep.1))), ((far2 (by omega) _ _).trans ((far2 (by omega) _ _).trans (hkeep.2.1))), ((far2 (by omega) _ _).trans ((far2 (by omega) _ _).trans (hkeep.2.2.1))), ((far2 (by omega) _ _).trans ((far2 (by omega) _ _).trans (hkeep.2.2.2.1))), ((far2 (by omega) _ _).trans ((far2 (by omega) _ _).trans (hkeep.2.2.2.2.1))), ((far2 (by omega) _ _).trans ((far2 (by omega) _ _).trans (hkeep.2.2.2.2.2)))⟩) | (with_reducible exact ⟨((far2 (by omega) _ _).trans ((far2 (by omega) _ _).trans ((far2 (by omega) _ _).trans (hkeep.1)))), ((far2 (by omega) _ _).trans ((far2 (by omega) _ _).trans ((far2 (by omega) _ _).trans (hkeep.2.1)))), ((far2 (by omega) _ _).trans ((far2 (by omega) _ _).trans ((far2 (by omega) _ _).trans (hkeep.2.2.1)))), ((far2 (by omega) _ _).trans ((far2 (by omega) _ _).trans ((far2 (by omega) _ _).trans (hkeep.2.2.2.1)))), ((far2 (by omega) _ _).trans ((far2 (by omega) _ _).trans ((far2 (by omega) _ _).trans (hkeep.2.2.2.2.1)))), ((far2 (by omega) _ _).trans ((far2 (by omega) _ _).trans ((far2 (by omega) _ _).trans (hkeep.2.2.2.2.2))))⟩) | (with_reducible exact ⟨((far2 (by omega) _ _).trans ((far2 (by omega) _ _).trans ((far2 (by omega) _ _).trans ((far2 (by omega) _ _).trans (hkeep.1))))), ((far2 (by omega) _ _).trans ((far2 (by omega) _ _).trans ((far2 (by omega) _ _).trans ((far2 (by omega) _ _).trans (hkeep.2.1))))), ((far2 (by omega) _ _).trans ((far2 (by omega) _ _).trans ((far2 (by omega) _ _).trans ((far2 (by omega) _ _).trans (hkeep.2.2.1))))), ((far2 (by omega) _ _).trans ((far2 (by omega) _ _).trans ((far2 (by omega) _ _).trans ((far2 (by omega) _ _).trans (hkeep.2.2.2.1))))), ((far2 (by omega) _ _).trans ((far2 (by omega) _ _).trans ((far2 (by omega) _ _).trans ((far2 (by omega) _ _).trans (hkeep.2.2.2.2.1))))), ((far2 (by omega) _ _).trans ((far2 (by omega) _ _).trans ((far2 (by omega) _ _).trans ((far2 (by omega) _ _).trans (hkeep.2.2.2.2.2)))))⟩) | go_keep)
        (first | (go_at_call 40; refine (place_any g side A2 l2.length c2 _ (by with_reducible exact q0.ex.src)).mono ?_; rintro e v1 ⟨bx, b_y, rfl, hbx, hd⟩; have q1 := q0.drew hd; have p1 := p0.drewn hd (by omega) (by have := HZ7.out.2.2.2; exact this); have hkeep := HSS.out _ q1 p1; have hr0 : v1.heap[w.heap.size]? = W0.heap[w.heap.size]? := q1.ex.fr _ (by omega); have z00 := (World.cell?_of_block (a := ⟨w.heap.size, 0, none⟩) hr0).trans HR0.out.1.c0; have z01 := (World.cell?_of_block (a := ⟨w.heap.size, 1, none⟩) hr0).trans HR0.out.1.c1; have z02 := (World.frozen?_of_block (a := ⟨w.heap.size, 0, none⟩) hr0).trans HR0.out.1.f0; have z03 := (World.frozen?_of_block (a := ⟨w.heap.size, 1, none⟩) hr0).trans HR0.out.1.f1; clear hr0; have hr1 : v1.heap[w.heap.size + 1]? = W0.heap[w.heap.size + 1]? := q1.ex.fr _ (by omega); have z10 := (World.cell?_of_block (a := ⟨w.heap.size + 1, 0, none⟩) hr1).trans HR0.out.2.1.c0; have z11 := (World.cell?_of_block (a := ⟨w.heap.size + 1, 1, none⟩) hr1).trans HR0.out.2.1.c1; have z12 := (World.frozen?_of_block (a := ⟨w.heap.size + 1, 0, none⟩) hr1).trans HR0.out.2.1.f0; have z13 := (World.frozen?_of_block (a := ⟨w.heap.size + 1, 1, none⟩) hr1).trans HR0.out.2.1.f1; clear hr1; have hr2 : v1.heap[w.heap.size + 1 + 1]? = W0.heap[w.heap.size + 1 + 1]? := q1.ex.fr _ (by omega); have z20 := (World.cell?_of_block (a := ⟨w.heap.size + 1 + 1, 0, none⟩) hr2).trans HR0.out.2.2.1.1.c0; have z21 := (World.cell?_of_block (a := ⟨w.heap.size + 1 + 1, 1, none⟩) hr2).trans HR0.out.2.2.1.1.c1; have z22 := (World.frozen?_of_block (a := ⟨w.heap.size + 1 + 1, 0, none⟩) hr2).trans HR0.out.2.2.1.2.1; have z23 := (World.frozen?_of_block (a := ⟨w.heap.size + 1 + 1, 1, none⟩) hr2).trans HR0.out.2.2.1.2.2; clear hr2; have hr3 : v1.heap[w.heap.size + 1 + 1 + 1]? = W0.heap[w.heap.size + 1 + 1 + 1]? := q1.ex.fr _ (by omega); have z30 := (World.cell?_of_block (a := ⟨w.heap.size + 1 + 1 + 1, 0, none⟩) hr3).trans HR0.out.2.2.2.1.c0; have z31 := (World.cell?_of_block (a := ⟨w.heap.size + 1 + 1 + 1, 1, none⟩) hr3).trans HR0.out.2.2.2.1.c1; have z32 := (World.frozen?_of_block (a := ⟨w.heap.size + 1 + 1 + 1, 0, none⟩) hr3).trans HR0.out.2.2.2.2.1; have z33 := (World.frozen?_of_block (a := ⟨w.heap.size + 1 + 1 + 1, 1, none⟩) hr3).trans HR0.out.2.2.2.2.2; clear hr3; clear hd))
      all_goals
        have Q1 := Lib.hid q1
        clear hkeep q0 q1 p0 p1
        go_wp2_with fail
        refine bodyPost_ret (v := .tuple #[.agg #[.int .i64 side, .slice A2 l2.length c2], .agg #[.slice AM T.length cM, .slice AD L.length cD], .agg #[.int .i64 ax, .int .i64 ay], .agg #[.int .i64 bx, .int .i64 b_y]]) (by simp [results, Try.results21, go_sem, z00, z01, z10, z11, z20, z21, z30, z31]) rfl ?_
        refine ⟨side, A2, c2, l2, AM, cM, T, AD, cD, L, ax, ay, bx, b_y, rfl, HSM.out, HT.out.1, HL6, ⟨HAX.out, hbx⟩, Q1.out.oM.rw, Q1.out.oD.capn, OwnI.ri (e := 2) (base := g + 1) (n := l2.length) (c := c2) ?_, OwnPl.r (base := W3.heap.size) (n := T.length) (c := cM) ?_, OwnI.ri (e := 2) (base := W3.heap.size) (n := L.length) (c := cD) ?_, ?_⟩
        · repeat (refine OwnI.set_below (by dsimp only; omega) _ ?_)
          exact Q1.out.ex.own
        · repeat (refine OwnPl.set_below (by dsimp only; omega) _ ?_)
          exact Q1.out.oM
        · repeat (refine OwnI.set_below (by dsimp only; omega) _ ?_)
          exact Q1.out.oD
        · repeat (refine Below.setCell ?_ (by dsimp only; omega) _)
          exact Q1.out.ex.bel
end Go.Proofs.Ytphkceiafehidaa

namespace Go.Proofs.Ytphkceiafehidaa
open Go.RowKit
set_option linter.unusedVariables false
set_option linter.unusedSimpArgs false

/-- Block b holds the fields of a map whose tiles can be read. -/
structure Gm (b : Nat) (side : Int) (A : Option Addr) (c : Nat) (l : List Int) (wr : World) : Prop where
  c0 : wr.cell? ⟨b, 0, none⟩ = some (.int .i64 side)
  c1 : wr.cell? ⟨b, 1, none⟩ = some (.slice A l.length c)
  lt : b < wr.heap.size
  ri : RI wr wr.heap.size A l
theorem RI.go {w w' : World} {A : Option Addr} {l : List Int} (h : RI w w.heap.size A l) (hb : Below w.heap.size w w') : RI w' w'.heap.size A l := (h.below hb).mono hb.size
theorem Gm.on {b : Nat} {side : Int} {A : Option Addr} {c : Nat} {l : List Int} {w w' : World} (h : Gm b side A c l w) (hb : Below w.heap.size w w') : Gm b side A c l w' :=
  ⟨(hb.cell (p := ⟨b, 0, none⟩) h.lt).trans h.c0, (hb.cell (p := ⟨b, 1, none⟩) h.lt).trans h.c1, Nat.lt_of_lt_of_le h.lt hb.size, h.ri.go hb⟩
theorem Gm.made {side : Int} {A : Option Addr} {c : Nat} {l : List Int} {w : World} (t : TypeId) (h : RI w w.heap.size A l) : Gm w.heap.size side A c l (w.alloc (.cells #[.int .i64 side, .slice A l.length c] t)) :=
  ⟨by simp [go_sem], by simp [go_sem], by simp, h.go ((Below.refl _ _).alloc (Nat.le_refl _) _)⟩
/-- What stays true while only new memory is made. -/
def Kep (P : World → Prop) : Prop := ∀ w w', Below w.heap.size w w' → P w → P w'
theorem belowA (w : World) (o : Obj) : Below w.heap.size w (w.alloc o) := (Below.refl _ _).alloc (Nat.le_refl _) _
theorem belowD (w : World) : Below w.heap.size w w.drew := (Below.refl _ _).drew
theorem belowN (w : World) (n : Nat) : Below w.heap.size w (w.drewN n) := ⟨rfl, rfl, rfl, Nat.le_refl _, fun _ _ => rfl⟩
theorem bAnd {a b c : World} (h : Below a.heap.size a b) (k : Below b.heap.size b c) : Below a.heap.size a c := h.trans (k.mono h.size)
theorem bytes_more {w w' : World} {A : Option Addr} {n : Nat} (h : BytesIn w w.heap.size A n) (hb : Below w.heap.size w w') : BytesIn w' w'.heap.size A n := by
  rcases h with h | ⟨b, off, rfl, hbl, hc⟩
  · exact .inl h
  · exact .inr ⟨b, off, rfl, Nat.lt_of_lt_of_le hbl hb.size, fun j hj => by
      obtain ⟨v, h1, h2⟩ := hc j hj
      exact ⟨v, h1, (hb.cell (p := ⟨b, off + j, none⟩) hbl).trans h2⟩⟩
/-- A place in its box. -/
structure Pm (b : Nat) (x y : Int) (wr : World) : Prop where
  c0 : wr.cell? ⟨b, 0, none⟩ = some (.int .i64 x)
  c1 : wr.cell? ⟨b, 1, none⟩ = some (.int .i64 y)
  lt : b < wr.heap.size
theorem Pm.on {b : Nat} {x y : Int} {w w' : World} (h : Pm b x y w) (hb : Below w.heap.size w w') : Pm b x y w' :=
  ⟨(hb.cell (p := ⟨b, 0, none⟩) h.lt).trans h.c0, (hb.cell (p := ⟨b, 1, none⟩) h.lt).trans h.c1, Nat.lt_of_lt_of_le h.lt hb.size⟩
theorem Pm.made {w : World} (x y : Int) (t : TypeId) : Pm w.heap.size x y (w.alloc (.cells #[.int .i64 x, .int .i64 y] t)) := ⟨by simp [go_sem], by simp [go_sem], by simp⟩
/-- Tables in their box, whose rows can be read. -/
structure Tm (q : Nat) (A : Option Addr) (c : Nat) (T : List Pl) (D : Option Addr) (d : Nat) (L : List Int) (wr : World) : Prop where
  m : TB wr q (.slice A T.length c) (.slice D L.length d)
  lt : q < wr.heap.size
  rp : RPl wr wr.heap.size A T
  ri : RI wr wr.heap.size D L
theorem Tm.on {q : Nat} {A : Option Addr} {c : Nat} {T : List Pl} {D : Option Addr} {d : Nat} {L : List Int} {w w' : World} (h : Tm q A c T D d L w) (hb : Below w.heap.size w w') : Tm q A c T D d L w' :=
  ⟨h.m.at_ (hb.block q h.lt), Nat.lt_of_lt_of_le h.lt hb.size, h.rp.below' hb, h.ri.go hb⟩
theorem Tm.made {A : Option Addr} {c : Nat} {T : List Pl} {D : Option Addr} {d : Nat} {L : List Int} {w : World} (t : TypeId) (h : RPl w w.heap.size A T) (k : RI w w.heap.size D L) : Tm w.heap.size A c T D d L (w.alloc (.cells #[.slice A T.length c, .slice D L.length d] t)) :=
  ⟨TB.made _ _ _ _, by simp, h.below' (belowA _ _), k.go (belowA _ _)⟩
theorem Tm.made2 {q : Nat} {A : Option Addr} {c : Nat} {T : List Pl} {D : Option Addr} {d : Nat} {L : List Int} {w : World} {t : TypeId} (hq : q = w.heap.size) (h : RPl w w.heap.size A T) (k : RI w w.heap.size D L) : Tm q A c T D d L (w.alloc (.cells #[.slice A T.length c, .slice D L.length d] t)) := hq ▸ Tm.made t h k
/-- An empty box for tables, made since w0. -/
structure Zb (w0 : World) (q : Nat) (wr : World) : Prop where
  m : TB wr q (.slice none 0 0) (.slice none 0 0)
  lt : w0.heap.size ≤ q ∧ q < wr.heap.size
theorem Zb.on {w0 : World} {q : Nat} {w w' : World} (h : Zb w0 q w) (hb : Below w.heap.size w w') : Zb w0 q w' := ⟨h.m.at_ (hb.block q h.lt.2), h.lt.1, Nat.lt_of_lt_of_le h.lt.2 hb.size⟩
theorem Zb.made {w0 w : World} (h : w0.heap.size ≤ w.heap.size) : Zb w0 w.heap.size (w.alloc (.cells #[.slice none 0 0, .slice none 0 0] 45)) := ⟨TB.made _ _ _ _, h, by simp⟩
/-- Tables handed back, to be read. -/
def Own2 (A A' : Option Addr) (lo hi : Nat) : Prop := (∀ a, A = some a → lo ≤ a.block ∧ a.block < hi) ∧ ∀ a, A' = some a → lo ≤ a.block ∧ a.block < hi
def TRead (w w' : World) (r : List Pl × List Int) (e : Ending) : Prop :=
  ∃ A c D d, e = .returned (.agg #[.slice A r.1.length c, .slice D r.2.length d]) ∧ RPl w' w'.heap.size A r.1 ∧ RI w' w'.heap.size D r.2 ∧ Own2 A D w.heap.size w'.heap.size ∧ (Rw A c ∧ r.2.length ≤ d) ∧ Below w.heap.size w w'
theorem TOut.rd {w w' : World} {r : List Pl × List Int} {e : Ending} (h : TOut w w' r.1 r.2 e) : TRead w w' r e := by
  obtain ⟨A, c, D, d, h1, h2, h3, _, h4⟩ := h
  exact ⟨A, c, D, d, h1, h2.r, OwnI.ri h3, ⟨fun a e => h2.lt a.block (by subst e; rfl), fun a e => World.ownsRow.lt h3 a.block (by subst e; rfl)⟩, ⟨h2.rw, OwnI.capn h3⟩, h4⟩
/-- The two cells of a box for tables are set. -/
abbrev both (w : World) (q : Nat) (u v : Value) : World := (w.setCell ⟨q, 0, none⟩ u).setCell ⟨q, 1, none⟩ v
theorem both_size (w : World) (q : Nat) (u v : Value) : (both w q u v).heap.size = w.heap.size := by simp [both]
theorem both_other (w : World) (q k : Nat) (u v : Value) (h : k ≠ q) : (both w q u v).heap[k]? = w.heap[k]? := by
  rw [both, heap_setCell_other _ _ _ _ h, heap_setCell_other _ _ _ _ h]
def Off (A : Option Addr) (q : Nat) : Prop := ∀ a, A = some a → a.block ≠ q
theorem Own2.off_lo {A A' : Option Addr} {lo hi q : Nat} (h : Own2 A A' lo hi) (hq : q < lo) : Off A q ∧ Off A' q := ⟨fun a e => by have := (h.1 a e).1; omega, fun a e => by have := (h.2 a e).1; omega⟩
theorem Own2.off_hi {A A' : Option Addr} {lo hi q : Nat} (h : Own2 A A' lo hi) (hq : hi ≤ q) : Off A q ∧ Off A' q := ⟨fun a e => by have := (h.1 a e).2; omega, fun a e => by have := (h.2 a e).2; omega⟩
theorem RI.both {w : World} {A : Option Addr} {l : List Int} (h : RI w w.heap.size A l) {q : Nat} (ho : Off A q) (u v : Value) : RI (both w q u v) (both w q u v).heap.size A l := by
  rw [both_size]
  rcases h with h | ⟨b, off, rfl, hb, hv⟩
  · exact .inl h
  · exact .inr ⟨b, off, rfl, hb, fun j hj => (World.cell?_of_block (w := w) (a := ⟨b, off + j, none⟩) (both_other w q b u v (ho _ rfl))).trans (hv j hj)⟩
theorem RPl.both {w : World} {A : Option Addr} {l : List Pl} (h : RPl w w.heap.size A l) {q : Nat} (ho : Off A q) (u v : Value) : RPl (both w q u v) (both w q u v).heap.size A l := by
  rw [both_size]
  rcases h with h | ⟨b, off, rfl, hb, hv⟩
  · exact .inl h
  · have hk := both_other w q b u v (ho _ rfl)
    refine .inr ⟨b, off, rfl, hb, fun j hj => ?_⟩
    obtain ⟨h0, h1⟩ := hv j hj
    exact ⟨(World.cell?_of_block (w := w) (a := ⟨b, _, none⟩) hk).trans h0, (World.cell?_of_block (w := w) (a := ⟨b, _, none⟩) hk).trans h1⟩
theorem Zb.both {w0 : World} {p : Nat} {w : World} (h : Zb w0 p w) {q : Nat} (hq : p ≠ q) (u v : Value) : Zb w0 p (both w q u v) := ⟨h.m.at_ (both_other w q p u v hq), h.lt.1, by rw [both_size]; exact h.lt.2⟩
theorem Tm.both {p : Nat} {A : Option Addr} {c : Nat} {T : List Pl} {D : Option Addr} {d : Nat} {L : List Int} {w : World} (h : Tm p A c T D d L w) {q : Nat} (hq : p ≠ q) (hA : Off A q ∧ Off D q) (u v : Value) : Tm p A c T D d L (both w q u v) :=
  ⟨h.m.at_ (both_other w q p u v hq), by rw [both_size]; exact h.lt, h.rp.both hA.1 _ _, h.ri.both hA.2 _ _⟩
theorem Zb.fill {w0 : World} {q : Nat} {w : World} (z : Zb w0 q w) {A D : Option Addr} {T : List Pl} {L : List Int} (hr : RPl w w.heap.size A T) (hk : RI w w.heap.size D L) (hA : Off A q ∧ Off D q) (c d : Nat) : Tm q A c T D d L (Go.Proofs.Ytphkceiafehidaa.both w q (.slice A T.length c) (.slice D L.length d)) := by
  have a0 : (w.setCell ⟨q, 0, none⟩ (.slice A T.length c)).cell? ⟨q, 0, none⟩ = some (.slice A T.length c) := World.cell?_setCell_same _ _ _ z.m.c0
  have a1 : (w.setCell ⟨q, 0, none⟩ (.slice A T.length c)).cell? ⟨q, 1, none⟩ = some (.slice none 0 0) := (World.cell?_setCell_other _ _ _ _ (by simp)).trans z.m.c1
  exact ⟨⟨(World.cell?_setCell_other _ _ _ _ (by simp)).trans a0, World.cell?_setCell_same _ _ _ a1, by simpa using z.m.f0, by simpa using z.m.f1⟩, by rw [both_size]; exact z.lt.2, hr.both hA.1 _ _, hk.both hA.2 _ _⟩
/-- Two tables, alike, in their boxes. -/
def Pair (P : World → Prop) (T : List Pl) (L : List Int) (cx cy : Value) (wx : World) : Prop :=
  ∃ (qx qy : Nat) (X : Option Addr) (k : Nat) (D : Option Addr) (d : Nat) (Y : Option Addr) (k' : Nat) (D' : Option Addr) (d' : Nat), cx = .pointer (some ⟨qx, 0, none⟩) ∧ cy = .pointer (some ⟨qy, 0, none⟩) ∧ P wx ∧ Tm qx X k T D d L wx ∧ Tm qy Y k' T D' d' L wx ∧ Rw X k ∧ L.length ≤ d
section
variable {P : World → Prop} {W v : World} {T : List Pl} {L : List Int} {X D Y D' : Option Addr} {k d k' d' q q' : Nat} {t : TypeId}
theorem both_keep (HPS : ∀ v q i x, P v → W.heap.size ≤ q → P (v.setCell ⟨q, i, none⟩ x)) (p : P v) (hq : W.heap.size ≤ q) (u u' : Value) : P (both v q u u') := HPS _ _ _ _ (HPS _ _ _ _ p hq) hq
theorem pair_a1 (HPA : ∀ v o, P v → P (v.alloc o)) (p : P v) (rx : RPl v v.heap.size X T) (rxc : RI v v.heap.size D L) (ry : RPl v v.heap.size Y T) (ryc : RI v v.heap.size D' L) (hR : Rw X k ∧ L.length ≤ d) :
    Pair P T L (.pointer (some ⟨v.heap.size, 0, none⟩)) (.pointer (some ⟨v.heap.size + 1, 0, none⟩)) ((v.alloc (.cells #[.slice X T.length k, .slice D L.length d] t)).alloc (.cells #[.slice Y T.length k', .slice D' L.length d'] t)) :=
  ⟨_, _, X, k, D, d, Y, k', D', d', rfl, rfl, HPA _ _ (HPA _ _ p), (Tm.made t rx rxc).on (belowA _ _), Tm.made2 (by simp) (ry.below' (belowA _ _)) (ryc.go (belowA _ _)), hR⟩
theorem pair_a2 (HPA : ∀ v o, P v → P (v.alloc o)) (p : P v) (rx : RPl v v.heap.size X T) (rxc : RI v v.heap.size D L) (ry : RPl v v.heap.size Y T) (ryc : RI v v.heap.size D' L) (hR : Rw X k ∧ L.length ≤ d) :
    Pair P T L (.pointer (some ⟨v.heap.size + 1, 0, none⟩)) (.pointer (some ⟨v.heap.size, 0, none⟩)) ((v.alloc (.cells #[.slice Y T.length k', .slice D' L.length d'] t)).alloc (.cells #[.slice X T.length k, .slice D L.length d] t)) :=
  ⟨_, _, X, k, D, d, Y, k', D', d', rfl, rfl, HPA _ _ (HPA _ _ p), Tm.made2 (by simp) (rx.below' (belowA _ _)) (rxc.go (belowA _ _)), (Tm.made t ry ryc).on (belowA _ _), hR⟩
theorem pair_b1 (HPA : ∀ v o, P v → P (v.alloc o)) (HPS : ∀ v q i x, P v → W.heap.size ≤ q → P (v.setCell ⟨q, i, none⟩ x)) (p : P v) (rx : RPl v v.heap.size X T) (rxc : RI v v.heap.size D L) (ry : RPl v v.heap.size Y T) (ryc : RI v v.heap.size D' L) (hR : Rw X k ∧ L.length ≤ d) (z : Zb W q v) (f : Off X q ∧ Off D q) (g : Off Y q ∧ Off D' q) :
    Pair P T L (.pointer (some ⟨q, 0, none⟩)) (.pointer (some ⟨v.heap.size, 0, none⟩)) ((both v q (.slice X T.length k) (.slice D L.length d)).alloc (.cells #[.slice Y T.length k', .slice D' L.length d'] t)) :=
  ⟨_, _, X, k, D, d, Y, k', D', d', rfl, rfl, HPA _ _ (both_keep HPS p z.lt.1 _ _), (z.fill rx rxc f _ _).on (belowA _ _), Tm.made2 (both_size _ _ _ _).symm (ry.both g.1 _ _) (ryc.both g.2 _ _), hR⟩
theorem pair_b2 (HPA : ∀ v o, P v → P (v.alloc o)) (HPS : ∀ v q i x, P v → W.heap.size ≤ q → P (v.setCell ⟨q, i, none⟩ x)) (p : P v) (rx : RPl v v.heap.size X T) (rxc : RI v v.heap.size D L) (ry : RPl v v.heap.size Y T) (ryc : RI v v.heap.size D' L) (hR : Rw X k ∧ L.length ≤ d) (z : Zb W q v) (f : Off X q ∧ Off D q) (g : Off Y q ∧ Off D' q) :
    Pair P T L (.pointer (some ⟨v.heap.size, 0, none⟩)) (.pointer (some ⟨q, 0, none⟩)) ((both v q (.slice Y T.length k') (.slice D' L.length d')).alloc (.cells #[.slice X T.length k, .slice D L.length d] t)) :=
  ⟨_, _, X, k, D, d, Y, k', D', d', rfl, rfl, HPA _ _ (both_keep HPS p z.lt.1 _ _), Tm.made2 (both_size _ _ _ _).symm (rx.both f.1 _ _) (rxc.both f.2 _ _), (z.fill ry ryc g _ _).on (belowA _ _), hR⟩
theorem pair_c1 (HPS : ∀ v q i x, P v → W.heap.size ≤ q → P (v.setCell ⟨q, i, none⟩ x)) (p : P v) (rx : RPl v v.heap.size X T) (rxc : RI v v.heap.size D L) (ry : RPl v v.heap.size Y T) (ryc : RI v v.heap.size D' L) (hR : Rw X k ∧ L.length ≤ d) (z : Zb W q v) (f : Off X q ∧ Off D q) (g : Off Y q ∧ Off D' q) (z' : Zb W q' v) (f' : Off X q' ∧ Off D q') (g' : Off Y q' ∧ Off D' q') (n : q ≠ q') :
    Pair P T L (.pointer (some ⟨q, 0, none⟩)) (.pointer (some ⟨q', 0, none⟩)) (both (both v q (.slice X T.length k) (.slice D L.length d)) q' (.slice Y T.length k') (.slice D' L.length d')) :=
  ⟨_, _, X, k, D, d, Y, k', D', d', rfl, rfl, both_keep HPS (both_keep HPS p z.lt.1 _ _) z'.lt.1 _ _, (z.fill rx rxc f _ _).both n f' _ _, (z'.both n.symm _ _).fill (ry.both g.1 _ _) (ryc.both g.2 _ _) g' _ _, hR⟩
theorem pair_c2 (HPS : ∀ v q i x, P v → W.heap.size ≤ q → P (v.setCell ⟨q, i, none⟩ x)) (p : P v) (rx : RPl v v.heap.size X T) (rxc : RI v v.heap.size D L) (ry : RPl v v.heap.size Y T) (ryc : RI v v.heap.size D' L) (hR : Rw X k ∧ L.length ≤ d) (z : Zb W q v) (f : Off X q ∧ Off D q) (g : Off Y q ∧ Off D' q) (z' : Zb W q' v) (f' : Off X q' ∧ Off D q') (g' : Off Y q' ∧ Off D' q') (n : q ≠ q') :
    Pair P T L (.pointer (some ⟨q, 0, none⟩)) (.pointer (some ⟨q', 0, none⟩)) (both (both v q' (.slice Y T.length k') (.slice D' L.length d')) q (.slice X T.length k) (.slice D L.length d)) :=
  ⟨_, _, X, k, D, d, Y, k', D', d', rfl, rfl, both_keep HPS (both_keep HPS p z'.lt.1 _ _) z.lt.1 _ _, (z.both n _ _).fill (rx.both f'.1 _ _) (rxc.both f'.2 _ _) f _ _, (z'.fill ry ryc g' _ _).both n.symm g _ _, hR⟩
end
/-- What is told of tables that are baked, mark by mark. -/
theorem bake_facts {side : Int} {l : List Int} {ms : List Pl} {D : Nat → List Int} (hD : IsB side l ms D) :
    IsB side l (bakeM side l ms) D ∧ (∀ p ∈ bakeM side l ms, p ∈ ms) ∧ ∀ i k (hi : i < (bakeM side l ms).length) (hk : k < (bakeM side l ms).length), boundOut side l (bakeM side l ms) (bakeD side l ms D) (bakeM side l ms)[i].x (bakeM side l ms)[i].y (bakeM side l ms)[k].x (bakeM side l ms)[k].y D = dOne side l (bakeM side l ms)[i].x (bakeM side l ms)[i].y (bakeM side l ms)[k].x (bakeM side l ms)[k].y (D i) := by
  cases hok : bakeOk side l ms
  · have e : bakeM side l ms = [] := by simp [bakeM, hok]
    rw [e]
    exact ⟨fun i h => absurd h (Nat.not_lt_zero _), fun p hp => (by cases hp), fun i k hi => absurd hi (Nat.not_lt_zero _)⟩
  · have e : bakeM side l ms = ms := by simp [bakeM, hok]
    have e2 : bakeD side l ms D = flatD D ms.length := by simp [bakeD, hok]
    rw [e, e2]
    exact ⟨hD, fun p hp => hp, fun i k hi hk => bound_marks hD hok hi hk⟩
end Go.Proofs.Ytphkceiafehidaa
