/- The model's ways: places, steps, what is beside. -/
import Derived.Test.YtmjbefjkkncjlaaWyL
import Derived.Test.YtmjbefjkkncjlaaPlL
import Derived.Test.YtmjbefjkkncjlaaGWalkS
import Derived.Deep.RegionHeld3
namespace Go.Proofs.Ytmjbefjkkncjlaa
open Go.RowKit
set_option linter.unusedVariables false
set_option linter.unusedSimpArgs false

/-- Block b holds a place. -/
structure PlB (w : World) (b : Nat) (x y : Int) : Prop where
  c0 : w.cell? ⟨b, 0, none⟩ = some (.int .i64 x)
  c1 : w.cell? ⟨b, 1, none⟩ = some (.int .i64 y)
theorem PlB.made (w : World) (x y : Int) (t : TypeId) : PlB (w.alloc (.cells #[.int .i64 x, .int .i64 y] t)) w.heap.size x y := ⟨by simp [go_sem], by simp [go_sem]⟩
theorem PlB.below {w w' : World} {b B : Nat} {x y : Int} (h : PlB w b x y) (hb : Below B w w') (hB : b < B) : PlB w' b x y :=
  ⟨(hb.cell (p := ⟨b, 0, none⟩) hB).trans h.c0, (hb.cell (p := ⟨b, 1, none⟩) hB).trans h.c1⟩

set_option maxHeartbeats 400000 in
theorem mAt5_any {side x y : Int} {l : List Int} (hr : gridRight side l = true) (hi : gridIn side x y = true) (A : Option Addr) (n c : Nat) (w : World) :
    Calls Try.prog 31 #[.agg #[.int .i64 side, .slice A n c], .agg #[.int .i64 x, .int .i64 y]] w fun e w' => e = .returned (.int .i64 (pn side x y : Int)) ∧ Below w.heap.size w w' := by
  obtain ⟨j, hj, hl, hw1, hw2⟩ := place_bound hr hi
  have HP : Hid ((pn side x y : Int) = y * side + x) := (pn_lt hr hi).2
  have hb : Below w.heap.size w ((w.alloc (.cells #[.int .i64 side, .slice A n c] 25)).alloc (.cells #[.int .i64 x, .int .i64 y] 27)) := ((Below.refl _ _).alloc (Nat.le_refl _) _).alloc (by simp) _
  have HB := Lib.hid hb
  clear hj hl hr hi hb
  go_enter Try.func31, Try.ntmps31
  go_wp2
  go_ret
  exact ⟨ret_int HP.out.symm, HB.out⟩

set_option maxRecDepth 100000 in
set_option maxHeartbeats 400000 in
theorem mOpen5_any (side x y : Int) (A : Option Addr) (c : Nat) (l : List Int) (w : World) (h : RI w w.heap.size A l) (hr : gridRight side l = true) :
    Calls Try.prog 44 #[.agg #[.int .i64 side, .slice A l.length c], .agg #[.int .i64 x, .int .i64 y]] w fun e w' => e = .returned (.bool (opn side l x y)) ∧ Below w.heap.size w w' := by
  have hb : Below w.heap.size w ((w.alloc (.cells #[.int .i64 side, .slice A l.length c] 25)).alloc (.cells #[.int .i64 x, .int .i64 y] 27)) := ((Below.refl _ _).alloc (Nat.le_refl _) _).alloc (by simp) _
  have HG := Lib.hid ((GB.made w side (.slice A l.length c) 25).below ((Below.refl _ _).alloc (Nat.le_refl _) (.cells #[.int .i64 x, .int .i64 y] 27)) (by simp))
  have HPl : Hid (PlB ((w.alloc (.cells #[.int .i64 side, .slice A l.length c] 25)).alloc (.cells #[.int .i64 x, .int .i64 y] 27)) (w.heap.size + 1) x y) := by
    have := PlB.made (w.alloc (.cells #[.int .i64 side, .slice A l.length c] 25)) x y 27
    rw [alloc_size] at this
    exact this
  have H := Lib.hid h
  have HB := Lib.hid hb
  have hIn := fun A n c w => mIn_any side x y A n c w (right_parts hr).1
  cases hi : gridIn side x y
  · rw [hi] at hIn
    have HI := Lib.hid hi
    clear hi h hr hb
    go_enter Try.func44, Try.ntmps44
    go_wp2_with fail
    refine (hIn _ _ _ _).mono ?_
    rintro e w1 ⟨rfl, hb1⟩
    have HB1 := Lib.hid (HB.out.trans (hb1.mono (by simp; omega)))
    clear hb1
    go_wp2
    go_ret
    exact ⟨ret_bool (by simp [opn, HI.out]), HB1.out⟩
  · rw [hi] at hIn
    obtain ⟨j, hj, hl, hw1, hw2⟩ := place_bound hr hi
    have HP : Hid (pn side x y = j) := by show _ = _; unfold pn; omega
    have HI := Lib.hid hi
    have hlj : (j : Int) < (l.length : Int) := by omega
    rw [hj] at hw2
    have HJ := Lib.hid hj
    clear hi h hr hb
    go_enter Try.func44, Try.ntmps44
    go_wp2_with fail
    refine (hIn _ _ _ _).mono ?_
    rintro e w1 ⟨rfl, hb1⟩
    have hz : w.heap.size + 1 < w1.heap.size := by have := hb1.size; simp at this; omega
    have HB1 := Lib.hid (HB.out.trans (hb1.mono (by simp; omega)))
    obtain ⟨g0, g1, _, _⟩ := HG.out.below hb1 (by simp; omega)
    obtain ⟨p0, p1⟩ := HPl.out.below hb1 (by simp)
    obtain ⟨b, off, rfl, hbl, hc⟩ := (H.out.below HB1.out).at_ (j := j) hl
    have HGD : Hid (l.getD j 0 = l[j]) := by show _ = _; simp [List.getD, hl]
    generalize l[j] = t at hc HGD
    clear hb1 HG HPl
    by_cases ht : t = 9
    · have hq : (t != 9) = false := by simpa using ht
      clear ht
      have HQ := Lib.hid hq
      go_wp2
      go_ret
      exact ⟨ret_bool (by simp only [opn, HI.out, HP.out, HGD.out, HQ.out, Bool.and_false]), HB1.out⟩
    · have hq : (t != 9) = true := by simpa using ht
      clear ht
      have HQ := Lib.hid hq
      go_wp2
      go_ret
      exact ⟨ret_bool (by simp only [opn, HI.out, HP.out, HGD.out, HQ.out, Bool.and_true]), HB1.out⟩
end Go.Proofs.Ytmjbefjkkncjlaa
