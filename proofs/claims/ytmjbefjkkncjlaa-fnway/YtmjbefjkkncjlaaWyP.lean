/- The program's ways: small calls: a place's number, whether one can stand there. -/
import Derived.Test.YtmjbefjkkncjlaaWyF
import Derived.Test.YtmjbefjkkncjlaaPgB
namespace Go.Proofs.Ytmjbefjkkncjlaa
open Go.RowKit
set_option linter.unusedVariables false
set_option linter.unusedSimpArgs false

set_option maxHeartbeats 400000 in
theorem pNum5_any {side x y : Int} {l : List Int} (hr : gridRight side l = true) (hi : gridIn side x y = true) (w : World) :
    Calls Try.prog 39 #[.int .i64 side, .agg #[.int .i64 x, .int .i64 y]] w fun e w' => e = .returned (.int .i64 (pn side x y : Int)) ∧ Below w.heap.size w w' := by
  obtain ⟨j, hj, hl, hw1, hw2⟩ := place_bound hr hi
  have HP : Hid ((pn side x y : Int) = y * side + x) := (pn_lt hr hi).2
  have HB := Lib.hid (bel_A w (.cells #[.int .i64 x, .int .i64 y] 27))
  clear hj hl hr hi
  go_enter Try.func39, Try.ntmps39
  go_wp2
  go_ret
  exact ⟨ret_int HP.out.symm, HB.out⟩

theorem opn_tile (side : Int) (l : List Int) (x y : Int) (t : Int) (h : t = tileAt side l x y) : (gridRight side l && opn side l x y) = (decide (t ≥ 0) && (t != 9)) := by
  subst h
  cases hr : gridRight side l
  · simp [tileAt, hr]
  · cases hi : gridIn side x y
    · simp [tileAt, opn, hr, hi]
    · obtain ⟨hl, _⟩ := pn_lt hr hi
      have ht := (right_parts hr).2.2 _ hl
      have hg : l.getD (pn side x y) 0 = l[pn side x y] := by simp [List.getD, hl]
      have e : tileAt side l x y = l.getD (pn side x y) 0 := by simp [tileAt, hr, hi, pn]
      rw [e]
      simp only [opn, hi, Bool.true_and]
      have : decide (l.getD (pn side x y) 0 ≥ 0) = true := by rw [hg]; simpa using ht.1
      rw [this, Bool.true_and]

set_option maxRecDepth 100000 in
set_option maxHeartbeats 400000 in
theorem pOpen5_any (side x y : Int) (A : Option Addr) (c : Nat) (l : List Int) (w : World) (h : RI w w.heap.size A l) (hl : l.length ≤ 1000000000) (hx : In64 x) (hy : In64 y) :
    Calls Try.prog 37 #[.agg #[.int .i64 side, .slice A l.length c], .agg #[.int .i64 x, .int .i64 y]] w fun e w' => e = .returned (.bool (gridRight side l && opn side l x y)) ∧ Below w.heap.size w w' := by
  have HB := Lib.hid (B2.made w side A c l x y).bel
  have hT := fun w h => pTileAt_any side x y A c l w h hl hx hy
  have H := Lib.hid h
  have hE := opn_tile side l x y _ rfl
  generalize tileAt side l x y = t at hT hE
  have HE := Lib.hid hE
  clear h hl hx hy hE
  by_cases h0 : t ≥ 0
  · have q0 : decide (t ≥ 0) = true := decide_eq_true h0
    have q0' : decide (0 ≤ t) = true := q0
    by_cases h9 : t = 9
    · have q9 : (t != 9) = false := by simpa using h9
      have HQ : Hid ((decide (t ≥ 0) && (t != 9)) = false) := by show _ = _; rw [q0, q9]; rfl
      rw [HE.out, HQ.out]
      go_enter Try.func37, Try.ntmps37
      go_wp2_with fail
      refine (hT _ ((H.out.below HB.out).mono HB.out.size)).mono ?_
      rintro e w1 ⟨rfl, hb1⟩
      have HB1 := Lib.hid (bel_T HB.out hb1)
      clear hb1 HB HE
      go_wp2
      go_ret
      exact ⟨rfl, HB1.out⟩
    · have q9 : (t != 9) = true := by simpa using h9
      have HQ : Hid ((decide (t ≥ 0) && (t != 9)) = true) := by show _ = _; rw [q0, q9]; rfl
      rw [HE.out, HQ.out]
      go_enter Try.func37, Try.ntmps37
      go_wp2_with fail
      refine (hT _ ((H.out.below HB.out).mono HB.out.size)).mono ?_
      rintro e w1 ⟨rfl, hb1⟩
      have HB1 := Lib.hid (bel_T HB.out hb1)
      clear hb1 HB HE
      go_wp2
      go_ret
      exact ⟨rfl, HB1.out⟩
  · have q0 : decide (t ≥ 0) = false := decide_eq_false h0
    have HQ : Hid ((decide (t ≥ 0) && (t != 9)) = false) := by show _ = _; rw [q0]; rfl
    rw [HE.out, HQ.out]
    go_enter Try.func37, Try.ntmps37
    go_wp2_with fail
    refine (hT _ ((H.out.below HB.out).mono HB.out.size)).mono ?_
    rintro e w1 ⟨rfl, hb1⟩
    have HB1 := Lib.hid (bel_T HB.out hb1)
    clear hb1 HB HE
    go_wp2
    go_ret
    exact ⟨rfl, HB1.out⟩
end Go.Proofs.Ytmjbefjkkncjlaa
