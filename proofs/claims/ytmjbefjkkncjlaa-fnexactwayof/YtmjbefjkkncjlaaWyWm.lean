/- The model's ways: a way from place to place. -/
import Derived.Test.YtmjbefjkkncjlaaWyW
import Derived.Test.YtmjbefjkkncjlaaWyX
import Derived.Test.YtmjbefjkkncjlaaWyH
import Derived.Deep.LoopGhost
import Derived.Deep.CutRange
namespace Go.Proofs.Ytmjbefjkkncjlaa
open Go.RowKit
set_option linter.unusedVariables false
set_option linter.unusedSimpArgs false

/-- An answer that is a way. -/
def WOutE (w w' : World) (R : Int × Int × List Pl) (e : Ending) : Prop := WOut w w' R.1 R.2.1 R.2.2 e
/-- The boxes of a map and two places, and of the answer. -/
structure B4 (w : World) (side : Int) (A : Option Addr) (c : Nat) (l : List Int) (x y u v : Int) (wr : World) : Prop where
  b : B3 w side A c l x y u v wr
  r : WB wr (w.heap.size + 1 + 1 + 1) (.slice none 0 0) 0 0
  siz : w.heap.size + 1 + 1 + 1 < wr.heap.size
theorem B4.below {w wr wr' : World} {side : Int} {A : Option Addr} {c : Nat} {l : List Int} {x y u v : Int} (h : B4 w side A c l x y u v wr) (hb : Below wr.heap.size wr wr') : B4 w side A c l x y u v wr' :=
  ⟨h.b.below hb, h.r.at_ (hb.block _ h.siz), Nat.lt_of_lt_of_le h.siz hb.size⟩
theorem B4.made (w : World) (side : Int) (A : Option Addr) (c : Nat) (l : List Int) (x y u v : Int) : B4 w side A c l x y u v ((((w.alloc (.cells #[.int .i64 side, .slice A l.length c] 25)).alloc (.cells #[.int .i64 x, .int .i64 y] 27)).alloc (.cells #[.int .i64 u, .int .i64 v] 27)).alloc (.cells #[.slice none 0 0, .int .i64 0, .int .i64 0] 32)) := by
  refine ⟨(B3.made w side A c l x y u v).below (bel_A _ _), ?_, by simp⟩
  have := WB.made (((w.alloc (.cells #[.int .i64 side, .slice A l.length c] 25)).alloc (.cells #[.int .i64 x, .int .i64 y] 27)).alloc (.cells #[.int .i64 u, .int .i64 v] 27)) (.slice none 0 0) 0 0 32
  simpa using this

set_option maxRecDepth 100000 in
set_option maxHeartbeats 4000000 in
theorem mWayOf_err (side ax ay bx b_y : Int) (A : Option Addr) (c : Nat) (l d0 : List Int) (L : List Pl) (w : World) (h : RI w w.heap.size A l) (hl : l.length ≤ 1000000000) (hd : (gridRight side l && opn side l ax ay) = true → GDist side l ax ay d0) (hne : (wayOut side l ax ay bx b_y d0 L).1 ≠ 0) :
    Calls Try.prog 7 #[.agg #[.int .i64 side, .slice A l.length c], .agg #[.int .i64 ax, .int .i64 ay], .agg #[.int .i64 bx, .int .i64 b_y]] w fun e w' => WOut w w' (wayOut side l ax ay bx b_y d0 L).2.1 (wayOut side l ax ay bx b_y d0 L).1 (wayOut side l ax ay bx b_y d0 L).2.2 e := by
  have HB := Lib.hid (B4.made w side A c l ax ay bx b_y)
  have H := Lib.hid h
  have hR := fun w h => mRight_any side A c l w h hl
  have hDi := fun w h => mDist_any side ax ay bx b_y A c l d0 w h hl hd
  clear h hl
  cases hr : gridRight side l
  · have HE : Hid (wayOut side l ax ay bx b_y d0 L = (1, 0, [])) := by show _ = _; simp [wayOut, hr]
    rw [HE.out]
    rw [hr] at hR
    clear hr hd hne hDi HE
    go_enter Try.func7, Try.ntmps7
    go_wp2_with fail
    refine (hR _ ((H.out.below HB.out.b.bel).mono HB.out.b.bel.size)).mono ?_
    rintro e w1 ⟨rfl, hb1⟩
    have HB1 := Lib.hid (HB.out.below hb1)
    clear hb1 HB
    obtain ⟨r0, r1, r2, q0, q1, q2⟩ := HB1.out.r
    go_wp2_with fail
    refine bodyPost_ret (v := .agg #[.slice none 0 0, .int .i64 0, .int .i64 1]) (by simp [results, Try.results7, go_sem, r0, r1, r2]) rfl ?_
    exact ⟨none, 0, rfl, OwnPl.nil _ _, ((HB1.out.b.bel.setCell (by show w.heap.size ≤ w.heap.size + 1 + 1 + 1; omega) _).setCell (by show w.heap.size ≤ w.heap.size + 1 + 1 + 1; omega) _).setCell (by show w.heap.size ≤ w.heap.size + 1 + 1 + 1; omega) _⟩
  · have hs := (right_parts hr).1
    have hI1 := fun w => mIn_any side ax ay A l.length c w hs
    have hI2 := fun w => mIn_any side bx b_y A l.length c w hs
    rw [hr] at hR
    cases hi : gridIn side ax ay
    · have HE : Hid (wayOut side l ax ay bx b_y d0 L = (8, 0, [])) := by show _ = _; simp [wayOut, hr, hi]
      rw [HE.out]
      rw [hi] at hI1
      clear hr hd hne hDi HE hs hi
      go_enter Try.func7, Try.ntmps7
      go_wp2_with fail
      refine (hR _ ((H.out.below HB.out.b.bel).mono HB.out.b.bel.size)).mono ?_
      rintro e w1 ⟨rfl, hb1⟩
      have HB1 := Lib.hid (HB.out.below hb1)
      clear hb1 HB
      obtain ⟨g0, g1, _, _⟩ := HB1.out.b.g
      obtain ⟨a0, a1⟩ := HB1.out.b.f
      obtain ⟨t0, t1⟩ := HB1.out.b.t
      go_wp2_with fail
      refine (hI1 _).mono ?_
      rintro e w2 ⟨rfl, hb2⟩
      have HB2 := Lib.hid (HB1.out.below hb2)
      clear hb2 HB1 g0 g1 a0 a1 t0 t1
      obtain ⟨r0, r1, r2, q0, q1, q2⟩ := HB2.out.r
      go_wp2_with fail
      refine bodyPost_ret (v := .agg #[.slice none 0 0, .int .i64 0, .int .i64 8]) (by simp [results, Try.results7, go_sem, r0, r1, r2]) rfl ?_
      exact ⟨none, 0, rfl, OwnPl.nil _ _, ((HB2.out.b.bel.setCell (by show w.heap.size ≤ w.heap.size + 1 + 1 + 1; omega) _).setCell (by show w.heap.size ≤ w.heap.size + 1 + 1 + 1; omega) _).setCell (by show w.heap.size ≤ w.heap.size + 1 + 1 + 1; omega) _⟩
    · rw [hi] at hI1
      cases hj : gridIn side bx b_y
      · have HE : Hid (wayOut side l ax ay bx b_y d0 L = (8, 0, [])) := by show _ = _; simp [wayOut, hr, hi, hj]
        rw [HE.out]
        rw [hj] at hI2
        clear hr hd hne hDi HE hs hi hj
        go_enter Try.func7, Try.ntmps7
        go_wp2_with fail
        refine (hR _ ((H.out.below HB.out.b.bel).mono HB.out.b.bel.size)).mono ?_
        rintro e w1 ⟨rfl, hb1⟩
        have HB1 := Lib.hid (HB.out.below hb1)
        clear hb1 HB
        obtain ⟨g0, g1, _, _⟩ := HB1.out.b.g
        obtain ⟨a0, a1⟩ := HB1.out.b.f
        obtain ⟨t0, t1⟩ := HB1.out.b.t
        go_wp2_with fail
        refine (hI1 _).mono ?_
        rintro e w2 ⟨rfl, hb2⟩
        have HB2 := Lib.hid (HB1.out.below hb2)
        clear hb2 HB1 g0 g1 a0 a1 t0 t1
        obtain ⟨g0, g1, _, _⟩ := HB2.out.b.g
        obtain ⟨a0, a1⟩ := HB2.out.b.f
        obtain ⟨t0, t1⟩ := HB2.out.b.t
        go_wp2_with fail
        refine (hI2 _).mono ?_
        rintro e w3 ⟨rfl, hb3⟩
        have HB3 := Lib.hid (HB2.out.below hb3)
        clear hb3 HB2 g0 g1 a0 a1 t0 t1
        obtain ⟨r0, r1, r2, q0, q1, q2⟩ := HB3.out.r
        go_wp2_with fail
        refine bodyPost_ret (v := .agg #[.slice none 0 0, .int .i64 0, .int .i64 8]) (by simp [results, Try.results7, go_sem, r0, r1, r2]) rfl ?_
        exact ⟨none, 0, rfl, OwnPl.nil _ _, ((HB3.out.b.bel.setCell (by show w.heap.size ≤ w.heap.size + 1 + 1 + 1; omega) _).setCell (by show w.heap.size ≤ w.heap.size + 1 + 1 + 1; omega) _).setCell (by show w.heap.size ≤ w.heap.size + 1 + 1 + 1; omega) _⟩
      · rw [hj] at hI2
        by_cases hn : dOne side l ax ay bx b_y d0 < 0
        · have HE : Hid (wayOut side l ax ay bx b_y d0 L = (6, 0, [])) := by show _ = _; simp [wayOut, hr, hi, hj, hn]
          rw [HE.out]
          have hnb : decide (dOne side l ax ay bx b_y d0 < 0) = true := decide_eq_true hn
          clear hr hd hne HE hs hi hj hn
          generalize dOne side l ax ay bx b_y d0 = v at *
          go_enter Try.func7, Try.ntmps7
          go_wp2_with fail
          refine (hR _ ((H.out.below HB.out.b.bel).mono HB.out.b.bel.size)).mono ?_
          rintro e w1 ⟨rfl, hb1⟩
          have HB1 := Lib.hid (HB.out.below hb1)
          clear hb1 HB
          obtain ⟨g0, g1, _, _⟩ := HB1.out.b.g
          obtain ⟨a0, a1⟩ := HB1.out.b.f
          obtain ⟨t0, t1⟩ := HB1.out.b.t
          go_wp2_with fail
          refine (hI1 _).mono ?_
          rintro e w2 ⟨rfl, hb2⟩
          have HB2 := Lib.hid (HB1.out.below hb2)
          clear hb2 HB1 g0 g1 a0 a1 t0 t1
          obtain ⟨g0, g1, _, _⟩ := HB2.out.b.g
          obtain ⟨a0, a1⟩ := HB2.out.b.f
          obtain ⟨t0, t1⟩ := HB2.out.b.t
          go_wp2_with fail
          refine (hI2 _).mono ?_
          rintro e w3 ⟨rfl, hb3⟩
          have HB3 := Lib.hid (HB2.out.below hb3)
          clear hb3 HB2 g0 g1 a0 a1 t0 t1
          obtain ⟨g0, g1, _, _⟩ := HB3.out.b.g
          obtain ⟨a0, a1⟩ := HB3.out.b.f
          obtain ⟨t0, t1⟩ := HB3.out.b.t
          go_wp2_with fail
          refine (hDi _ ((H.out.below HB3.out.b.bel).mono HB3.out.b.bel.size)).mono ?_
          rintro e w4 ⟨rfl, hb4⟩
          have HB4 := Lib.hid (HB3.out.below hb4)
          clear hb4 HB3 g0 g1 a0 a1 t0 t1
          obtain ⟨r0, r1, r2, q0, q1, q2⟩ := HB4.out.r
          go_wp2_with fail
          refine bodyPost_ret (v := .agg #[.slice none 0 0, .int .i64 0, .int .i64 6]) (by simp [results, Try.results7, go_sem, r0, r1, r2]) rfl ?_
          exact ⟨none, 0, rfl, OwnPl.nil _ _, ((HB4.out.b.bel.setCell (by show w.heap.size ≤ w.heap.size + 1 + 1 + 1; omega) _).setCell (by show w.heap.size ≤ w.heap.size + 1 + 1 + 1; omega) _).setCell (by show w.heap.size ≤ w.heap.size + 1 + 1 + 1; omega) _⟩
        · have HE : wayOut side l ax ay bx b_y d0 L = (0, dk d0 (pn side bx b_y), L) := by simp [wayOut, hr, hi, hj, hn]
          rw [HE] at hne
          exact absurd rfl hne
end Go.Proofs.Ytmjbefjkkncjlaa
