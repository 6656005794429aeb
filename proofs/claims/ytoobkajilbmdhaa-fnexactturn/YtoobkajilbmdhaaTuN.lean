/- The model's Turn. -/
import Derived.Test.YtoobkajilbmdhaaTuM
import Derived.Test.YtoobkajilbmdhaaPgF
namespace Go.Proofs.Ytoobkajilbmdhaa
open Go.RowKit
set_option linter.unusedVariables false
set_option linter.unusedSimpArgs false

set_option maxRecDepth 100000 in
set_option maxHeartbeats 1000000 in
theorem mTurn_any (side how : Int) (A : Option Addr) (c : Nat) (l : List Int) (w : World) (h : RI w w.heap.size A l) (hl : l.length ≤ 1000000000) :
    Calls Try.prog 12 #[.agg #[.int .i64 side, .slice A l.length c], .int .i64 how] w fun e w' => GOut w w' (turnSide side l how) (turnTiles side l how) (turnCode side l how) e := by
  have HF0 := Lib.hid (FB.made w side (.slice A l.length c))
  have H := Lib.hid h
  clear h
  have hRt := fun w h => mRight_any side A c l w h hl
  have hIs := fun w => mIs_any how 0 7 w
  cases hr : gridRight side l
  · rw [hr] at hRt
    obtain ⟨e1, e2, e3⟩ := turn_bad (side := side) (how := how) (l := l) (by simp [turnOk, hr])
    rw [e1, e2, e3]
    clear hr e1 e2 e3 hIs
    go_enter Try.func12, Try.ntmps12
    go_wp2_with fail
    refine (hRt _ ((H.out.below HF0.out.bel).mono HF0.out.bel.size)).mono ?_
    rintro e w1 ⟨rfl, hb1⟩
    have HF1 := Lib.hid (HF0.out.below hb1)
    clear hb1
    go_wp2_with fail
    refine (mIll_any 1 _).mono ?_
    rintro e w2 ⟨rfl, hb2⟩
    have HF2 := Lib.hid (HF1.out.below hb2)
    clear hb2
    obtain ⟨_, ⟨c0, c1, c2, f0, f1, f2⟩, _, hz⟩ := HF2.out
    go_wp2
    refine bodyPost_ret (v := .agg #[.int .i64 0, .slice none 0 0, .int .i64 1]) (by simp [results, Try.results12, go_sem, c0, c1, c2]) rfl ?_
    exact ⟨none, 0, rfl, OwnI.nil _ _ _ _, ((HF2.out.bel.setCell (by simp) _).setCell (by simp) _).setCell (by simp) _⟩
  · rw [hr] at hRt
    cases hi : inIs how 0 7
    · rw [hi] at hIs
      obtain ⟨e1, e2, e3⟩ := turn_bad (side := side) (how := how) (l := l) (by simp [turnOk, hr, hi])
      rw [e1, e2, e3]
      clear hr hi e1 e2 e3
      go_enter Try.func12, Try.ntmps12
      go_wp2_with fail
      refine (hRt _ ((H.out.below HF0.out.bel).mono HF0.out.bel.size)).mono ?_
      rintro e w1 ⟨rfl, hb1⟩
      have HF1 := Lib.hid (HF0.out.below hb1)
      clear hb1
      go_wp2_with fail
      refine (hIs _).mono ?_
      rintro e w9 ⟨rfl, rfl⟩
      go_wp2_with fail
      refine (mIll_any 1 _).mono ?_
      rintro e w2 ⟨rfl, hb2⟩
      have HF2 := Lib.hid (HF1.out.below hb2)
      clear hb2
      obtain ⟨_, ⟨c0, c1, c2, f0, f1, f2⟩, _, hz⟩ := HF2.out
      go_wp2
      refine bodyPost_ret (v := .agg #[.int .i64 0, .slice none 0 0, .int .i64 1]) (by simp [results, Try.results12, go_sem, c0, c1, c2]) rfl ?_
      exact ⟨none, 0, rfl, OwnI.nil _ _ _ _, ((HF2.out.bel.setCell (by simp) _).setCell (by simp) _).setCell (by simp) _⟩
    · rw [hi] at hIs
      obtain ⟨e1, e2, e3⟩ := turn_good (side := side) (how := how) (l := l) (by simp [turnOk, hr, hi])
      rw [e1, e2, e3]
      obtain ⟨n, hn, hn4, hln⟩ := right_sn hr
      have hb7 : 0 ≤ how ∧ how ≤ 7 := by simpa [inIs] using hi
      obtain ⟨m, rfl⟩ := Int.eq_ofNat_of_zero_le hb7.1
      subst hn
      have hm7 : m ≤ 7 := by omega
      simp only [Int.toNat_natCast]
      have HK := Lib.hid (fun w h => mTurned_any n m hn4 hm7 A c l w h hln)
      have HTL : Hid ((turnL n m l).length = l.length) := by show _ = _; rw [turnL_len, hln]
      clear hr hi e1 e2 e3 hb7 hm7 hn4 hln
      go_enter Try.func12, Try.ntmps12
      go_wp2_with fail
      refine (hRt _ ((H.out.below HF0.out.bel).mono HF0.out.bel.size)).mono ?_
      rintro e w1 ⟨rfl, hb1⟩
      have HF1 := Lib.hid (HF0.out.below hb1)
      clear hb1
      go_wp2_with fail
      refine (hIs _).mono ?_
      rintro e w9 ⟨rfl, rfl⟩
      obtain ⟨⟨i0, i1, j0, j1⟩, _, _, hz1⟩ := HF1.out
      go_wp2_with fail
      refine (HK.out _ ((H.out.below HF1.out.bel).mono HF1.out.bel.size)).mono ?_
      rintro e w2 ⟨A2, c2, rfl, ho2, hb2⟩
      have HO2 := Lib.hid ho2
      have HF2 := Lib.hid (HF1.out.below hb2)
      have HZ := Lib.hid hz1
      clear hb2 ho2 i0 i1 j0 j1 hz1
      obtain ⟨_, ⟨c0, c1, c2', f0, f1, f2⟩, _, hz⟩ := HF2.out
      go_wp2
      refine bodyPost_ret (v := .agg #[.int .i64 n, .slice A2 l.length c2, .int .i64 0]) (by simp [results, Try.results12, go_sem, c0, c1, c2']) rfl ?_
      refine ⟨A2, c2, by rw [HTL.out], ?_, ((HF2.out.bel.setCell (by simp) _).setCell (by simp) _).setCell (by simp) _⟩
      rw [HTL.out]
      exact OwnI.lower (base := w1.heap.size) (by have := HZ.out; omega) (OwnI.set_below (by have := HZ.out; show w.heap.size + 1 < _; omega) _ (OwnI.set_below (by have := HZ.out; show w.heap.size + 1 < _; omega) _ (OwnI.set_below (by have := HZ.out; show w.heap.size + 1 < _; omega) _ HO2.out)))
end Go.Proofs.Ytoobkajilbmdhaa
