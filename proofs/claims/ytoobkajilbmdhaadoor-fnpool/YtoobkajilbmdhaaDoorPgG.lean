/- The program's pools: PoolGet. -/
import Derived.Test.YtoobkajilbmdhaaDoorPgGb
namespace Go.Proofs.YtoobkajilbmdhaaDoor
open Go.RowKit
set_option linter.unusedVariables false
set_option linter.unusedSimpArgs false

theorem getG_bad {l : List Nd} {rt side : Int} (h : (getG l rt side).1 ≠ 0) : getG l rt side = ((getG l rt side).1, 0, []) := by
  unfold getG at h ⊢
  split
  · next h1 =>
    rw [if_pos h1] at h
    split
    · next h2 => rw [if_pos h2] at h; exact absurd rfl h
    · rfl
  · rfl
theorem getG_good {l : List Nd} {rt side : Int} (hs : sideOk side = true) (h : (getG l rt side).1 = 0) : ∃ root d : Nat, rt = (root : Int) ∧ side = ((2 ^ d : Nat) : Int) ∧ d ≤ 3 ∧ root < l.length ∧ (hts l).getD root 0 ≤ (d : Int) ∧ getG l rt side = (0, side, getTo l d root (2 ^ d * 2 ^ d)) := by
  obtain ⟨d, hd, rfl, hdb⟩ := side_pow hs
  cases ht : thereN l.length rt
  · simp [getG, ht] at h
  · have h2 : 0 ≤ rt ∧ rt < l.length := by simp [thereN, inIs] at ht; omega
    obtain ⟨root, rfl⟩ := Int.eq_ofNat_of_zero_le h2.1
    by_cases hh : (hts l).getD root 0 ≤ (d : Int)
    · refine ⟨root, d, rfl, rfl, hd, by omega, hh, ?_⟩
      rw [getG, ht, if_pos rfl, hdb, if_pos (by simpa using hh)]
      rfl
    · rw [getG, ht, if_pos rfl, hdb, if_neg (by simpa using hh)] at h
      simp at h

set_option maxRecDepth 100000 in
set_option maxHeartbeats 4000000 in
theorem pPoolGet_any (A : Option Addr) (c : Nat) (l : List Nd) (rt side : Int) (w : World) (h : RN w w.heap.size A l) (hl : l.length ≤ 1048576) (hc : l.length ≤ c) (hf : ∀ n ∈ l, n.Fits) (htab : HasTab w) :
    Calls Tryd.prog 9 #[.agg #[.slice A l.length c], .int .i64 rt, .int .i64 side] w fun e w' => GOut w w' (getP l rt side).2.1 (getP l rt side).2.2 (getP l rt side).1 e := by
  have hbw : Below w.heap.size w ((w.alloc (.cells #[.slice A l.length c] 25)).alloc (.cells #[.int .i64 0, .slice none 0 0, .int .i64 0] 37)) := ((Below.refl _ _).alloc (Nat.le_refl _) _).alloc (by simp) _
  have HT0 := Lib.hid (htab.below hbw)
  have HP0 := Lib.hid ((PB.made w A c l h).below ((Below.refl _ _).alloc (Nat.le_refl _) (.cells #[.int .i64 0, .slice none 0 0, .int .i64 0] 37)))
  have HY0 : Hid (GO ((w.alloc (.cells #[.slice A l.length c] 25)).alloc (.cells #[.int .i64 0, .slice none 0 0, .int .i64 0] 37)) (w.heap.size + 1)) := by
    have := GO.made (w.alloc (.cells #[.slice A l.length c] 25)) 37
    rw [alloc_size] at this
    exact this
  have hPR := fun w h => pPoolRight_any A c l w h hl hc hf
  have hSd := pSide_any side
  clear h hbw htab hf
  cases hr : poolRight l
  · have HE : Hid (getP l rt side = (1, 0, [])) := by show _ = _; simp [getP, hr]
    rw [HE.out]
    rw [hr] at hPR
    clear hr
    go_enter Tryd.func9, Tryd.ntmps9
    go_wp2_with fail
    refine (hPR _ HP0.out.rn).mono ?_
    rintro e w1 ⟨rfl, hb1⟩
    have HP1 := Lib.hid (HP0.out.below hb1)
    have HY1 := Lib.hid (HY0.out.below hb1 (by simp))
    have HT1 := Lib.hid (HT0.out.below hb1)
    have hz1' : w.heap.size + 1 < w1.heap.size := by have := hb1.size; simp at this; omega
    clear hb1 HP0 HY0 HT0
    obtain ⟨c0, c1, c2, f0, f1, f2⟩ := HY1.out
    go_wp2
    refine bodyPost_ret (v := .agg #[.int .i64 0, .slice none 0 0, .int .i64 1]) (by simp [results, Tryd.results9, go_sem, c0, c1, c2]) rfl ?_
    exact ⟨none, 0, rfl, OwnI.nil _ _ _ _, ((HP1.out.bel.setCell (by simp) _).setCell (by simp) _).setCell (by simp) _⟩
  · have HR := Lib.hid hr
    rw [hr] at hPR
    cases hs : sideOk side
    · have HE : Hid (getP l rt side = (1, 0, [])) := by show _ = _; simp [getP, hs]
      rw [HE.out]
      rw [hs] at hSd
      clear hr hs
      go_enter Tryd.func9, Tryd.ntmps9
      go_wp2_with fail
      refine (hPR _ HP0.out.rn).mono ?_
      rintro e w1 ⟨rfl, hb1⟩
      have HP1 := Lib.hid (HP0.out.below hb1)
      have HY1 := Lib.hid (HY0.out.below hb1 (by simp))
      have HT1 := Lib.hid (HT0.out.below hb1)
      have hz1' : w.heap.size + 1 < w1.heap.size := by have := hb1.size; simp at this; omega
      clear hb1 HP0 HY0 HT0
      go_wp2_with fail
      refine (hSd _).mono ?_
      rintro e w2 ⟨rfl, rfl⟩
      have p0 := HP1.out.c0
      obtain ⟨c0, c1, c2, f0, f1, f2⟩ := HY1.out
      go_wp2
      refine bodyPost_ret (v := .agg #[.int .i64 0, .slice none 0 0, .int .i64 1]) (by simp [results, Tryd.results9, go_sem, c0, c1, c2]) rfl ?_
      exact ⟨none, 0, rfl, OwnI.nil _ _ _ _, ((HP1.out.bel.setCell (by simp) _).setCell (by simp) _).setCell (by simp) _⟩
    · have HE : Hid (getP l rt side = getG l rt side) := by show _ = _; simp [getP, hr, hs]
      rw [HE.out]
      rw [hs] at hSd
      have HSD := Lib.hid hs
      have hRC := fun w h ht => pRootCode_any A c l rt side w h HR.out HSD.out ht
      by_cases hc0 : (getG l rt side).1 = 0
      · obtain ⟨root, d, rfl, rfl, hd, hk, hh, hG⟩ := getG_good hs hc0
        have hGB := fun w h => pGridBelow_any A c l root d w h HR.out hd hk hh
        rw [hc0] at hRC
        rw [hG]
        clear hr hs hc0 hG hd hk hh HE
        generalize 2 ^ d = z at *
        go_enter Tryd.func9, Tryd.ntmps9
        go_wp2_with fail
        refine (hPR _ HP0.out.rn).mono ?_
        rintro e w1 ⟨rfl, hb1⟩
        have HP1 := Lib.hid (HP0.out.below hb1)
        have HY1 := Lib.hid (HY0.out.below hb1 (by simp))
        have HT1 := Lib.hid (HT0.out.below hb1)
        have hz1' : w.heap.size + 1 < w1.heap.size := by have := hb1.size; simp at this; omega
        clear hb1 HP0 HY0 HT0
        go_wp2_with fail
        refine (hSd _).mono ?_
        rintro e w2 ⟨rfl, rfl⟩
        have p0 := HP1.out.c0
        go_wp2_with fail
        refine (hRC _ HP1.out.rn HT1.out).mono ?_
        rintro e w3 ⟨rfl, hb3⟩
        have HP3 := Lib.hid (HP1.out.below hb3)
        have HY3 := Lib.hid (HY1.out.below hb3 hz1')
        have hz3' : w.heap.size + 1 < w3.heap.size := Nat.lt_of_lt_of_le hz1' hb3.size
        clear hb3 p0 HP1 HY1 HT1
        have p0 := HP3.out.c0
        go_wp2_with fail
        refine (hGB _ HP3.out.rn).mono ?_
        rintro e w4 ⟨A2, c2, rfl, ho, hb4⟩
        have HP4 := Lib.hid (HP3.out.below hb4)
        have HY4 := Lib.hid (HY3.out.below hb4 hz3')
        have HO4 := Lib.hid ho
        clear hb4 p0 HP3 HY3 ho
        obtain ⟨c0, c1, c2', f0, f1, f2⟩ := HY4.out
        go_wp2
        refine bodyPost_ret (v := .agg #[.int .i64 z, .slice A2 (getTo l d root (z * z)).length c2, .int .i64 0]) (by simp [results, Tryd.results9, go_sem, c0, c1, c2']) rfl ?_
        refine ⟨A2, c2, rfl, ?_, ((HP4.out.bel.setCell (by simp) _).setCell (by simp) _).setCell (by simp) _⟩
        exact OwnI.lower (base := w3.heap.size) (by omega) (OwnI.set_below (by show w.heap.size + 1 < _; omega) _ (OwnI.set_below (by show w.heap.size + 1 < _; omega) _ (OwnI.set_below (by show w.heap.size + 1 < _; omega) _ HO4.out)))
      · have hG := getG_bad hc0
        rw [hG]
        have hne : ((getG l rt side).1 != 0) = true := by simpa using hc0
        clear hr hs HE hG
        generalize (getG l rt side).1 = code at *
        clear hc0
        go_enter Tryd.func9, Tryd.ntmps9
        go_wp2_with fail
        refine (hPR _ HP0.out.rn).mono ?_
        rintro e w1 ⟨rfl, hb1⟩
        have HP1 := Lib.hid (HP0.out.below hb1)
        have HY1 := Lib.hid (HY0.out.below hb1 (by simp))
        have HT1 := Lib.hid (HT0.out.below hb1)
        have hz1' : w.heap.size + 1 < w1.heap.size := by have := hb1.size; simp at this; omega
        clear hb1 HP0 HY0 HT0
        go_wp2_with fail
        refine (hSd _).mono ?_
        rintro e w2 ⟨rfl, rfl⟩
        have p0 := HP1.out.c0
        go_wp2_with fail
        refine (hRC _ HP1.out.rn HT1.out).mono ?_
        rintro e w3 ⟨rfl, hb3⟩
        have HP3 := Lib.hid (HP1.out.below hb3)
        have HY3 := Lib.hid (HY1.out.below hb3 hz1')
        clear hb3 p0 HP1 HY1 HT1
        obtain ⟨c0, c1, c2, f0, f1, f2⟩ := HY3.out
        go_wp2
        refine bodyPost_ret (v := .agg #[.int .i64 0, .slice none 0 0, .int .i64 code]) (by simp [results, Tryd.results9, go_sem, c0, c1, c2]) rfl ?_
        exact ⟨none, 0, rfl, OwnI.nil _ _ _ _, ((HP3.out.bel.setCell (by simp) _).setCell (by simp) _).setCell (by simp) _⟩
end Go.Proofs.YtoobkajilbmdhaaDoor
