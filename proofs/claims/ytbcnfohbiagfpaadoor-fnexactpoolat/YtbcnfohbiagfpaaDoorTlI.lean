/- The model's pools: PoolGet. -/
import Derived.Test.YtbcnfohbiagfpaaDoorTlH
namespace Go.Proofs.YtbcnfohbiagfpaaDoor
open Go.RowKit
set_option linter.unusedVariables false
set_option linter.unusedSimpArgs false

set_option maxRecDepth 100000 in
set_option maxHeartbeats 1000000 in
theorem mPoolGet_any (A : Option Addr) (c : Nat) (l : List Nd) (rt side : Int) (w : World) (h : RN w w.heap.size A l) (hl : l.length ≤ 1000000000) :
    Calls Tryd.prog 19 #[.agg #[.slice A l.length c], .int .i64 rt, .int .i64 side] w fun e w' => GOut w w' (getP l rt side).2.1 (getP l rt side).2.2 (getP l rt side).1 e := by
  have HP0 := Lib.hid ((PB.made w A c l h).below ((Below.refl _ _).alloc (Nat.le_refl _) (.cells #[.int .i64 0, .slice none 0 0, .int .i64 0] 37)))
  have HY0 : Hid (GO ((w.alloc (.cells #[.slice A l.length c] 25)).alloc (.cells #[.int .i64 0, .slice none 0 0, .int .i64 0] 37)) (w.heap.size + 1)) := by
    have := GO.made (w.alloc (.cells #[.slice A l.length c] 25)) 37
    rw [alloc_size] at this
    exact this
  have hPR := fun w h => mPoolRight_any A c l w h hl
  have hSd := mSide_any side
  clear h
  cases hr : poolRight l
  · have HE : Hid (getP l rt side = (1, 0, [])) := by show _ = _; simp [getP, hr]
    rw [HE.out]
    rw [hr] at hPR
    clear hr
    go_enter Tryd.func19, Tryd.ntmps19
    go_wp2_with fail
    refine (hPR _ HP0.out.rn).mono ?_
    rintro e w1 ⟨rfl, hb1⟩
    have HP1 := Lib.hid (HP0.out.below hb1)
    have HY1 := Lib.hid (HY0.out.below hb1 (by simp))
    have hz1' : w.heap.size + 1 < w1.heap.size := by have := hb1.size; simp at this; omega
    clear hb1
    go_wp2_with fail
    refine (mIll_any 1 _).mono ?_
    rintro e w4 ⟨rfl, hb4⟩
    have HP4 := Lib.hid (HP1.out.below hb4)
    obtain ⟨c0, c1, c2, f0, f1, f2⟩ := HY1.out.below hb4 hz1'
    clear hb4
    go_wp2
    refine bodyPost_ret (v := .agg #[.int .i64 0, .slice none 0 0, .int .i64 1]) (by simp [results, Tryd.results19, go_sem, c0, c1, c2]) rfl ?_
    exact ⟨none, 0, rfl, OwnI.nil _ _ _ _, ((HP4.out.bel.setCell (by simp) _).setCell (by simp) _).setCell (by simp) _⟩
  · have HR := Lib.hid hr
    rw [hr] at hPR
    cases hs : sideOk side
    · have HE : Hid (getP l rt side = (1, 0, [])) := by show _ = _; simp [getP, hs]
      rw [HE.out]
      rw [hs] at hSd
      clear hr hs
      go_enter Tryd.func19, Tryd.ntmps19
      go_wp2_with fail
      refine (hPR _ HP0.out.rn).mono ?_
      rintro e w1 ⟨rfl, hb1⟩
      have HP1 := Lib.hid (HP0.out.below hb1)
      have HY1 := Lib.hid (HY0.out.below hb1 (by simp))
      have hz1' : w.heap.size + 1 < w1.heap.size := by have := hb1.size; simp at this; omega
      clear hb1
      go_wp2_with fail
      refine (hSd _).mono ?_
      rintro e w2 ⟨rfl, rfl⟩
      go_wp2_with fail
      refine (mIll_any 1 _).mono ?_
      rintro e w4 ⟨rfl, hb4⟩
      have HP4 := Lib.hid (HP1.out.below hb4)
      obtain ⟨c0, c1, c2, f0, f1, f2⟩ := HY1.out.below hb4 hz1'
      clear hb4
      go_wp2
      refine bodyPost_ret (v := .agg #[.int .i64 0, .slice none 0 0, .int .i64 1]) (by simp [results, Tryd.results19, go_sem, c0, c1, c2]) rfl ?_
      exact ⟨none, 0, rfl, OwnI.nil _ _ _ _, ((HP4.out.bel.setCell (by simp) _).setCell (by simp) _).setCell (by simp) _⟩
    · have HE : Hid (getP l rt side = getG l rt side) := by show _ = _; simp [getP, hr, hs]
      rw [HE.out]
      rw [hs] at hSd
      have hG := fun w h => mGet_any A c l rt side w h hr hs
      clear hr hs
      generalize getG l rt side = RES at *
      obtain ⟨C, S, T⟩ := RES
      simp only at hG ⊢
      go_enter Tryd.func19, Tryd.ntmps19
      go_wp2_with fail
      refine (hPR _ HP0.out.rn).mono ?_
      rintro e w1 ⟨rfl, hb1⟩
      have HP1 := Lib.hid (HP0.out.below hb1)
      have HY1 := Lib.hid (HY0.out.below hb1 (by simp))
      have hz1' : w.heap.size + 1 < w1.heap.size := by have := hb1.size; simp at this; omega
      clear hb1
      go_wp2_with fail
      refine (hSd _).mono ?_
      rintro e w2 ⟨rfl, rfl⟩
      have p0 := HP1.out.c0
      go_wp2_with fail
      refine (hG _ HP1.out.rn).mono ?_
      rintro e w4 ⟨A4, c4, rfl, ho4, hb4⟩
      have HP4 := Lib.hid (HP1.out.below hb4)
      obtain ⟨c0, c1, c2, f0, f1, f2⟩ := HY1.out.below hb4 hz1'
      have HO4 := Lib.hid ho4
      clear hb4 ho4 p0
      go_wp2
      refine bodyPost_ret (v := .agg #[.int .i64 S, .slice A4 T.length c4, .int .i64 C]) (by simp [results, Tryd.results19, go_sem, c0, c1, c2]) rfl ?_
      refine ⟨A4, c4, rfl, ?_, ((HP4.out.bel.setCell (by simp) _).setCell (by simp) _).setCell (by simp) _⟩
      exact OwnI.lower (base := w1.heap.size) (by omega) (OwnI.set_below (by show w.heap.size + 1 < _; omega) _ (OwnI.set_below (by show w.heap.size + 1 < _; omega) _ (OwnI.set_below (by show w.heap.size + 1 < _; omega) _ HO4.out)))
end Go.Proofs.YtbcnfohbiagfpaaDoor
