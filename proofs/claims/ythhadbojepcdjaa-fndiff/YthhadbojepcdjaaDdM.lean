/- The model's DiffDo. -/
import Derived.Test.YthhadbojepcdjaaDfM
import Derived.Test.YthhadbojepcdjaaGridF
namespace Go.Proofs.Ythhadbojepcdjaa
open Go.RowKit
set_option linter.unusedVariables false

theorem FillInv.below {w : World} {side : Int} {A : Option Addr} {n c B o g c' : Nat} {wr wr' : World} {l : List Int} (h : FillInv w side A n c B o g c' wr l) (hb : Below wr.heap.size wr wr') : FillInv w side A n c B o g c' wr' l := by
  obtain ⟨h1, h2, h3, h4⟩ := h.siz
  exact ⟨h.inn.below hb (by omega), h.res.below hb (by omega), h.cpy.below hb h4, h.own.keep hb, h.bel.trans (hb.mono h.bel.size), h1, h2, h3, Nat.lt_of_lt_of_le h4 hb.size⟩

/-- What is still to be done, behind the first k changes. -/
theorem do_bad {side : Int} {l : List Ch} {t : List Int} {k : Nat} (hk : k < l.length) (h : doCode side t l[k] ≠ 0) : doAll side (l.drop k) t = (doCode side t l[k], []) := by
  rw [List.drop_eq_getElem_cons hk, doAll, if_neg h]
theorem do_good {side : Int} {l : List Ch} {t : List Int} {k : Nat} (hk : k < l.length) (h : doCode side t l[k] = 0) : doAll side (l.drop k) t = doAll side (l.drop (k + 1)) (t.set (chAt side l[k]) l[k].n) := by
  rw [List.drop_eq_getElem_cons hk, doAll, if_pos h]
theorem do_end {side : Int} {l : List Ch} {t : List Int} {k : Nat} (hk : l.length ≤ k) : doAll side (l.drop k) t = (0, t) := by
  rw [List.drop_of_length_le hk, doAll]
theorem doOut_ok {side : Int} {t : List Int} {l : List Ch} (hr : gridRight side t = true) (h : l.length ≤ 64) : doOut side t l = ((doAll side l t).1, (if (doAll side l t).1 = 0 then side else 0), (doAll side l t).2) := by
  rw [doOut, if_pos (by omega), hr, if_pos (by simpa using h)]

set_option maxRecDepth 100000 in
set_option maxHeartbeats 1000000 in
theorem mDiffDo_any (side : Int) (A : Option Addr) (c : Nat) (t0 : List Int) (A' : Option Addr) (c' : Nat) (l : List Ch) (w : World) (h : RI w w.heap.size A t0) (h' : RCh w w.heap.size A' l) (hl : t0.length ≤ 1000000000) (hl' : l.length ≤ 1000000000) :
    Calls Try.prog 14 #[.agg #[.int .i64 side, .slice A t0.length c], .slice A' l.length c'] w fun e w' => GOut w w' (doOut side t0 l).2.1 (doOut side t0 l).2.2 (doOut side t0 l).1 e := by
  have H := Lib.hid h
  have H' := Lib.hid h'
  clear h h'
  have HB0 : Hid (Below w.heap.size w ((w.alloc (.cells #[.int .i64 side, .slice A t0.length c] 25)).alloc (.cells #[.int .i64 0, .slice none 0 0, .int .i64 0] 37))) := ((Below.refl _ _).alloc (Nat.le_refl _) _).alloc (by simp) _
  have HX0 : Hid (GB ((w.alloc (.cells #[.int .i64 side, .slice A t0.length c] 25)).alloc (.cells #[.int .i64 0, .slice none 0 0, .int .i64 0] 37)) w.heap.size side (.slice A t0.length c)) := (GB.made w side (.slice A t0.length c) 25).below ((Below.refl _ _).alloc (B := w.heap.size + 1) (by simp) _) (by omega)
  have HY0 : Hid (GO ((w.alloc (.cells #[.int .i64 side, .slice A t0.length c] 25)).alloc (.cells #[.int .i64 0, .slice none 0 0, .int .i64 0] 37)) (w.heap.size + 1)) := by
    have := GO.made (w.alloc (.cells #[.int .i64 side, .slice A t0.length c] 25)) 37
    rw [alloc_size] at this
    exact this
  by_cases h4 : l.length ≤ 400
  · have hRt := fun w h => mRight_any side A c t0 w h hl
    have hg4 : decide ((400 : Int) < l.length) = false := decide_eq_false (by omega)
    cases hr : gridRight side t0
    · rw [hr] at hRt
      have HE : Hid (doOut side t0 l = (1, 0, [])) := by show _ = _; simp [doOut, h4, hr]
      rw [HE.out]
      clear hr
      go_enter Try.func14, Try.ntmps14
      go_wp2_with fail
      refine (hRt _ (H.out.below' HB0.out)).mono ?_
      rintro e w1 ⟨rfl, hb1⟩
      have HB1 := Lib.hid (HB0.out.trans (hb1.mono HB0.out.size))
      have HY1 := Lib.hid (HY0.out.below hb1 (by simp))
      have hz1 : w.heap.size + 1 < w1.heap.size := by have := hb1.size; simp at this; omega
      clear hb1 HB0 HX0 HY0
      go_wp2_with fail
      refine (mIll_any 1 _).mono ?_
      rintro e w4 ⟨rfl, hb4⟩
      have HB4 := Lib.hid (HB1.out.trans (hb4.mono HB1.out.size))
      obtain ⟨c0, c1, c2, f0, f1, f2⟩ := HY1.out.below hb4 hz1
      clear hb4
      go_wp2
      refine bodyPost_ret (v := .agg #[.int .i64 0, .slice none 0 0, .int .i64 1]) (by simp [results, Try.results14, go_sem, c0, c1, c2]) rfl ?_
      exact ⟨none, 0, rfl, OwnI.nil _ _ _ _, ((HB4.out.setCell (by simp) _).setCell (by simp) _).setCell (by simp) _⟩
    · rw [hr] at hRt
      by_cases h6 : l.length ≤ 64
      · have HE := Lib.hid (doOut_ok hr h6)
        have HR := Lib.hid hr
        have h64 := right_len hr
        have hs := (right_parts hr).1
        obtain ⟨hs1, hs8⟩ := side_bound hs
        have hg6 : decide ((64 : Int) < l.length) = false := decide_eq_false (by omega)
        have hl0 : 0 < t0.length := by have h1 := (right_parts hr).2.1; have : 1 ≤ side * side := (by rcases (sideOk_iff side).1 hs with rfl | rfl | rfl | rfl <;> decide); omega
        clear hr
        go_enter Try.func14, Try.ntmps14
        go_wp2_with fail
        refine (hRt _ (H.out.below' HB0.out)).mono ?_
        rintro e w1 ⟨rfl, hb1⟩
        have HB1 := Lib.hid (HB0.out.trans (hb1.mono HB0.out.size))
        have HX1 := Lib.hid (HX0.out.below hb1 (by simp; omega))
        have HY1 := Lib.hid (HY0.out.below hb1 (by simp))
        have hz1 : w.heap.size + 1 < w1.heap.size := by have := hb1.size; simp at this; omega
        clear hb1 HB0 HX0 HY0
        obtain ⟨x0, x1, _, _⟩ := HX1.out
        go_wp2_with fail
        refine (mCopy_any side A c t0 _ (H.out.below' HB1.out) (by omega) hl0).mono ?_
        rintro e w2 ⟨A2, c2, rfl, ho2, hb2⟩
        obtain ⟨g, rfl, hg1, hg2, _⟩ := ho2.at_ hl0
        have hba : Below w2.heap.size w2 (w2.alloc (.cells #[.int .i64 side, .slice (some ⟨g, 0, none⟩) t0.length c2] 25)) := (Below.refl _ _).alloc (Nat.le_refl _) _
        have HI0 : Hid (FillInv w side A t0.length c w1.heap.size w2.heap.size g c2 (w2.alloc (.cells #[.int .i64 side, .slice (some ⟨g, 0, none⟩) t0.length c2] 25)) t0) :=
          ⟨(HX1.out.below hb2 (by omega)).below hba (by omega), (HY1.out.below hb2 (by omega)).below hba (by omega), GB.made _ _ _ _, ho2.alloc _, (HB1.out.trans (hb2.mono HB1.out.size)).trans (hba.mono (Nat.le_trans HB1.out.size hb2.size)), hz1, hg1, hg2, by simp⟩
        clear hb2 ho2 hba HB1 HX1 HY1 x0 x1
        go_wp2
        generalize w2.alloc (.cells #[.int .i64 side, .slice (some ⟨g, 0, none⟩) t0.length c2] 25) = w3 at *
        generalize hoo : w2.heap.size = o at *
        clear hoo
        go_loopw [6] (fun i wr => ∃ (k : Nat) (t : List Int), i = .int .i64 k ∧ k ≤ l.length ∧ FillInv w side A t0.length c w1.heap.size o g c2 wr t ∧ Hid (t.length = t0.length) ∧ Hid (doAll side (l.drop k) t = doAll side l t0)) (fun i _ => l.length - (intOf i).toNat)
        case atStart => exact ⟨0, t0, rfl, Nat.zero_le _, HI0.out, rfl, rfl⟩
        case round =>
          obtain ⟨k, t, rfl, hk, hi, HTL, HDO⟩ := hrel
          have HI := Lib.hid hi
          clear HI0
          by_cases hlt : k < l.length
          · obtain ⟨b, off, rfl, hbl, hc⟩ := H'.out.at_ hlt
            have hc' := hc.keep (hi.bel.block b hbl)
            have hzb : b < wr.heap.size := Nat.lt_of_lt_of_le hbl hi.bel.size
            have HBAD := Lib.hid (fun h => do_bad (side := side) (t := t) hlt h)
            have HGOOD := Lib.hid (fun h => do_good (side := side) (t := t) hlt h)
            clear hc hi
            generalize l[k] = n at hc' HBAD HGOOD
            obtain ⟨nx, ny, no, nn⟩ := n
            obtain ⟨d0, d1, d2, d3⟩ := hc'
            simp only at d0 d1 d2 d3
            have hIn := fun w => mIn_any side nx ny A t0.length c w hs
            have hTt := mTile_any nn
            have HIA := Lib.hid (HI.out.below ((Below.refl _ _).alloc (Nat.le_refl _) (.cells #[.int .i64 nx, .int .i64 ny, .int .i64 no, .int .i64 nn] 53)))
            have HNA := Lib.hid (madeCh' wr nx ny no nn)
            obtain ⟨x0, x1, _, _⟩ := HI.out.inn
            obtain ⟨z1, z2, z3, z4⟩ := HI.out.siz
            have hzw : w.heap.size < wr.heap.size := by omega
            clear z1 z2 z3 z4
            cases hin : gridIn side nx ny
            · rw [hin] at hIn
              have HV : Hid (doOut side t0 l = (8, 0, [])) := by
                have hcd : doCode side t ⟨nx, ny, no, nn⟩ = 8 := by simp [doCode, hin]
                have := HBAD.out (by rw [hcd]; decide)
                rw [hcd, HDO.out] at this
                show _ = _
                rw [HE.out, this]; rfl
              clear hin
              go_wp2_with fail
              refine (hIn _).mono ?_
              rintro e w4 ⟨rfl, hb4⟩
              have HI4 := Lib.hid (HIA.out.below hb4)
              clear hb4
              go_wp2_with fail
              refine (mIll_any 8 _).mono ?_
              rintro e w5 ⟨rfl, hb5⟩
              have HI5 := Lib.hid (HI4.out.below hb5)
              obtain ⟨c0, c1, c2, f0, f1, f2⟩ := HI5.out.res
              clear hb5
              go_wp2
              refine bodyPost_ret (v := .agg #[.int .i64 0, .slice none 0 0, .int .i64 8]) (by simp [results, Try.results14, go_sem, c0, c1, c2]) rfl ?_
              rw [HV.out]
              exact ⟨none, 0, rfl, OwnI.nil _ _ _ _, ((HI5.out.bel.setCell (by simp) _).setCell (by simp) _).setCell (by simp) _⟩
            · rw [hin] at hIn
              cases htt : tileOk nn
              · rw [htt] at hTt
                have HV : Hid (doOut side t0 l = (8, 0, [])) := by
                  have hcd : doCode side t ⟨nx, ny, no, nn⟩ = 8 := by simp [doCode, htt]
                  have := HBAD.out (by rw [hcd]; decide)
                  rw [hcd, HDO.out] at this
                  show _ = _
                  rw [HE.out, this]; rfl
                clear hin htt
                go_wp2_with fail
                refine (hIn _).mono ?_
                rintro e w4 ⟨rfl, hb4⟩
                have HI4 := Lib.hid (HIA.out.below hb4)
                obtain ⟨e0, e1, e2, e3⟩ := HNA.out.keep (hb4.block wr.heap.size (by simp))
                clear hb4
                simp only [Nat.zero_add] at e0 e1 e2 e3
                go_wp2_with fail
                refine (hTt _).mono ?_
                rintro e w5 ⟨rfl, rfl⟩
                go_wp2_with fail
                refine (mIll_any 8 _).mono ?_
                rintro e w5 ⟨rfl, hb5⟩
                have HI5 := Lib.hid (HI4.out.below hb5)
                obtain ⟨c0, c1, c2, f0, f1, f2⟩ := HI5.out.res
                clear hb5
                go_wp2
                refine bodyPost_ret (v := .agg #[.int .i64 0, .slice none 0 0, .int .i64 8]) (by simp [results, Try.results14, go_sem, c0, c1, c2]) rfl ?_
                rw [HV.out]
                exact ⟨none, 0, rfl, OwnI.nil _ _ _ _, ((HI5.out.bel.setCell (by simp) _).setCell (by simp) _).setCell (by simp) _⟩
              · rw [htt] at hTt
                obtain ⟨j, hj, hjl, hw1, hw2⟩ := place_bound HR.out hin
                rw [hj] at hw2
                have hjt : j < t.length := by rw [HTL.out]; exact hjl
                have HAT : Hid (chAt side ⟨nx, ny, no, nn⟩ = j) := by show _ = _; simp [chAt, hj]
                have HCD : Hid (doCode side t ⟨nx, ny, no, nn⟩ = if t[j] = no then 0 else 10) := by show _ = _; rw [doCode, hin, htt, HAT.out, getD_at hjt]; rfl
                obtain ⟨g', eg, _, _, hcg, hfg⟩ := HI.out.own.at_ hjt
                cases eg
                have HCG := Lib.hid hcg
                have hjb : (j : Int) < t0.length := by omega
                generalize t[j] = v at *
                have HJ := Lib.hid hj
                clear hin htt hcg hfg
                go_wp2_with fail
                refine (hIn _).mono ?_
                rintro e w4 ⟨rfl, hb4⟩
                have HI4 := Lib.hid (HIA.out.below hb4)
                obtain ⟨e0, e1, e2, e3⟩ := HNA.out.keep (hb4.block wr.heap.size (by simp))
                have hz4 : wr.heap.size < w4.heap.size := by have := hb4.size; simp at this; omega
                simp only [Nat.zero_add] at e0 e1 e2 e3
                have hgz : g < wr.heap.size := (HI.out.own.lt _ rfl).2
                have hcg4 : w4.cell? ⟨g, j, none⟩ = some (.int .i64 v) := (hb4.cell (p := ⟨g, j, none⟩) (by simp; omega)).trans (((Below.refl wr.heap.size wr).alloc (Nat.le_refl _) _).cell (p := ⟨g, j, none⟩) hgz |>.trans HCG.out)
                obtain ⟨g4, eg4, _, _, _, hfg4⟩ := HI4.out.own.at_ hjt
                cases eg4
                have HNE : Hid (g ≠ wr.heap.size) := by show _ ≠ _; omega
                clear hb4 x0 x1 d0 d1 d2 d3 hgz
                obtain ⟨x0, x1, _, _⟩ := HI4.out.inn
                obtain ⟨y0, y1, _, _⟩ := HI4.out.cpy
                go_wp2_with fail
                refine (hTt _).mono ?_
                rintro e w5 ⟨rfl, rfl⟩
                by_cases hv : v = no
                · have HV : Hid (doAll side (l.drop (k + 1)) (t.set j nn) = doAll side l t0) := by
                    have := HGOOD.out (by rw [HCD.out, if_pos hv])
                    rw [HDO.out, HAT.out] at this
                    exact this.symm
                  subst hv
                  have HS := Lib.hid (HI4.out.drew.store j nn)
                  go_wp2_with fail
                  go_region
                  go_wp2
                  go_roundw
                  case rel => exact ⟨k + 1, t.set j nn, by go_num, by omega, HS.out, (by show _ = _; rw [List.length_set]; exact HTL.out), HV⟩
                  case measure => simp [intOf]; omega
                · have hvb : (v != no) = true := by simpa using hv
                  have HV : Hid (doOut side t0 l = (10, 0, [])) := by
                    have hcd : doCode side t ⟨nx, ny, no, nn⟩ = 10 := by rw [HCD.out, if_neg hv]
                    have := HBAD.out (by rw [hcd]; decide)
                    rw [hcd, HDO.out] at this
                    show _ = _
                    rw [HE.out, this]; rfl
                  go_wp2_with fail
                  go_region
                  go_wp2_with fail
                  refine (mIll_any 10 _).mono ?_
                  rintro e w5 ⟨rfl, hb5⟩
                  have HI5 := Lib.hid (HI4.out.drew.below hb5)
                  obtain ⟨c0, c1, c2, f0, f1, f2⟩ := HI5.out.res
                  clear hb5
                  go_wp2
                  refine bodyPost_ret (v := .agg #[.int .i64 0, .slice none 0 0, .int .i64 10]) (by simp [results, Try.results14, go_sem, c0, c1, c2]) rfl ?_
                  rw [HV.out]
                  exact ⟨none, 0, rfl, OwnI.nil _ _ _ _, ((HI5.out.bel.setCell (by simp) _).setCell (by simp) _).setCell (by simp) _⟩
          · have HV : Hid (doOut side t0 l = (0, side, t)) := by
              have := do_end (side := side) (t := t) (l := l) (k := k) (by omega)
              rw [HDO.out] at this
              show _ = _
              rw [HE.out, this]; rfl
            obtain ⟨y0, y1, _, _⟩ := HI.out.cpy
            obtain ⟨c0, c1, c2', f0, f1, f2⟩ := HI.out.res
            obtain ⟨z1, z2, z3, z4⟩ := HI.out.siz
            clear hi
            go_wp2
            refine bodyPost_ret (v := .agg #[.int .i64 side, .slice (some ⟨g, 0, none⟩) t0.length c2, .int .i64 0]) (by simp [results, Try.results14, go_sem, c0, c1, c2']) rfl ?_
            rw [HV.out]
            refine ⟨some ⟨g, 0, none⟩, c2, by rw [HTL.out], ?_, ((HI.out.bel.setCell (by simp) _).setCell (by simp) _).setCell (by simp) _⟩
            rw [HTL.out]
            exact OwnI.lower (base := w1.heap.size) (by omega) (OwnI.set_below (by show w.heap.size + 1 < _; omega) _ (OwnI.set_below (by show w.heap.size + 1 < _; omega) _ (OwnI.set_below (by show w.heap.size + 1 < _; omega) _ HI.out.own)))
      · have HE : Hid (doOut side t0 l = (1, 0, [])) := by show _ = _; simp [doOut, h4, h6]
        have hg6 : decide ((64 : Int) < l.length) = true := decide_eq_true (by omega)
        rw [HE.out]
        clear hr
        go_enter Try.func14, Try.ntmps14
        go_wp2_with fail
        refine (hRt _ (H.out.below' HB0.out)).mono ?_
        rintro e w1 ⟨rfl, hb1⟩
        have HB1 := Lib.hid (HB0.out.trans (hb1.mono HB0.out.size))
        have HY1 := Lib.hid (HY0.out.below hb1 (by simp))
        have hz1 : w.heap.size + 1 < w1.heap.size := by have := hb1.size; simp at this; omega
        clear hb1 HB0 HX0 HY0
        go_wp2_with fail
        refine (mIll_any 1 _).mono ?_
        rintro e w4 ⟨rfl, hb4⟩
        have HB4 := Lib.hid (HB1.out.trans (hb4.mono HB1.out.size))
        obtain ⟨c0, c1, c2, f0, f1, f2⟩ := HY1.out.below hb4 hz1
        clear hb4
        go_wp2
        refine bodyPost_ret (v := .agg #[.int .i64 0, .slice none 0 0, .int .i64 1]) (by simp [results, Try.results14, go_sem, c0, c1, c2]) rfl ?_
        exact ⟨none, 0, rfl, OwnI.nil _ _ _ _, ((HB4.out.setCell (by simp) _).setCell (by simp) _).setCell (by simp) _⟩
  · have HE : Hid (doOut side t0 l = (2, 0, [])) := by show _ = _; simp [doOut, h4]
    have hg4 : decide ((400 : Int) < l.length) = true := decide_eq_true (by omega)
    rw [HE.out]
    go_enter Try.func14, Try.ntmps14
    go_wp2_with fail
    refine (mIll_any 2 _).mono ?_
    rintro e w4 ⟨rfl, hb4⟩
    have HB4 := Lib.hid (HB0.out.trans (hb4.mono HB0.out.size))
    obtain ⟨c0, c1, c2, f0, f1, f2⟩ := HY0.out.below hb4 (by simp)
    clear hb4
    go_wp2
    refine bodyPost_ret (v := .agg #[.int .i64 0, .slice none 0 0, .int .i64 2]) (by simp [results, Try.results14, go_sem, c0, c1, c2]) rfl ?_
    exact ⟨none, 0, rfl, OwnI.nil _ _ _ _, ((HB4.out.setCell (by simp) _).setCell (by simp) _).setCell (by simp) _⟩
end Go.Proofs.Ythhadbojepcdjaa
