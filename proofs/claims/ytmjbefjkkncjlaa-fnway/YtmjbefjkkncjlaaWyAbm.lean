/- The program's ways: a way from place to place. -/
import Derived.Test.YtmjbefjkkncjlaaMSa
import Derived.Test.YtmjbefjkkncjlaaPgBo
import Derived.Test.YtmjbefjkkncjlaaMTb
import Derived.Test.YtmjbefjkkncjlaaMTc
namespace Go.Proofs.Ytmjbefjkkncjlaa
open Go.RowKit
set_option linter.unusedVariables false
set_option linter.unusedSimpArgs false

theorem far3 {v : World} {q k o : Nat} (h : k ≠ q) (x y z : Value) : (((v.setCell ⟨q, 0, none⟩ x).setCell ⟨q, 1, none⟩ y).setCell ⟨q, 2, none⟩ z).cell? ⟨k, o, none⟩ = v.cell? ⟨k, o, none⟩ :=
  cell_at (((heap_setCell_other _ _ k z h).trans (heap_setCell_other _ _ k y h)).trans (heap_setCell_other _ _ k x h))
set_option maxRecDepth 100000 in
set_option maxHeartbeats 4000000 in
theorem pWayOf_any (side ax ay bx b_y : Int) (A : Option Addr) (c : Nat) (l d0 : List Int) (L : List Pl) (w : World) (h : RI w w.heap.size A l) (hl : l.length ≤ 1000000000) (hax : In64 ax) (hay : In64 ay) (hbx : In64 bx) (hby : In64 b_y) (hd : (gridRight side l && opn side l ax ay) = true → GDist side l ax ay d0) (hL : (gridRight side l && opn side l ax ay && opn side l bx b_y) = true → WayTo side l d0 ⟨bx, b_y⟩ L) :
    Calls Try.prog 6 #[.agg #[.int .i64 side, .slice A l.length c], .agg #[.int .i64 ax, .int .i64 ay], .agg #[.int .i64 bx, .int .i64 b_y]] w fun e w' => WOut w w' (wayOut side l ax ay bx b_y d0 L).2.1 (wayOut side l ax ay bx b_y d0 L).1 (wayOut side l ax ay bx b_y d0 L).2.2 e := by
  have HB := Lib.hid (B4.made w side A c l ax ay bx b_y)
  have H := Lib.hid h
  have hR := fun w h => pRight_any side A c l w h hl
  have hDi := fun w h => pDist_any side ax ay bx b_y A c l d0 w h hl hax hay hbx hby hd
  have hDs := fun w h => pDists_any side ax ay A c l d0 w h hl hax hay hd
  clear h
  cases hr : gridRight side l
  · have HE : Hid (wayOut side l ax ay bx b_y d0 L = (1, 0, [])) := by show _ = _; simp [wayOut, hr]
    rw [HE.out]
    rw [hr] at hR
    clear hr hd hL hDi hDs HE hl hax hay hbx hby
    go_enter Try.func6, Try.ntmps6
    go_wp2_with fail
    refine (hR _ ((H.out.below HB.out.b.bel).mono HB.out.b.bel.size)).mono ?_
    rintro e w1 ⟨rfl, hb1⟩
    have HB1 := Lib.hid (HB.out.below hb1)
    clear hb1 HB
    obtain ⟨r0, r1, r2, q0, q1, q2⟩ := HB1.out.r
    go_wp2_with fail
    refine bodyPost_ret (v := .agg #[.slice none 0 0, .int .i64 0, .int .i64 1]) (by simp [results, Try.results6, go_sem, r0, r1, r2]) rfl ?_
    exact ⟨none, 0, rfl, OwnPl.nil _ _, ((HB1.out.b.bel.setCell (by show w.heap.size ≤ w.heap.size + 1 + 1 + 1; omega) _).setCell (by show w.heap.size ≤ w.heap.size + 1 + 1 + 1; omega) _).setCell (by show w.heap.size ≤ w.heap.size + 1 + 1 + 1; omega) _⟩
  · have hs := (right_parts hr).1
    have hI := fun w => pBoth_any side ax ay bx b_y w hs hax hay hbx hby
    rw [hr] at hR
    cases hi : (gridIn side ax ay && gridIn side bx b_y)
    · have HE : Hid (wayOut side l ax ay bx b_y d0 L = (8, 0, [])) := by show _ = _; simp [wayOut, hr, hi]
      rw [HE.out]
      rw [hi] at hI
      clear hr hd hL hDi hDs HE hs hi hl hax hay hbx hby
      go_enter Try.func6, Try.ntmps6
      go_wp2_with fail
      refine (hR _ ((H.out.below HB.out.b.bel).mono HB.out.b.bel.size)).mono ?_
      rintro e w1 ⟨rfl, hb1⟩
      have HB1 := Lib.hid (HB.out.below hb1)
      clear hb1 HB
      obtain ⟨g0, g1, _, _⟩ := HB1.out.b.g
      obtain ⟨a0, a1⟩ := HB1.out.b.f
      obtain ⟨t0, t1⟩ := HB1.out.b.t
      go_wp2_with fail
      refine (hI _).mono ?_
      rintro e w2 ⟨rfl, hb2⟩
      have HB2 := Lib.hid (HB1.out.below hb2)
      clear hb2 HB1 g0 g1 a0 a1 t0 t1
      obtain ⟨r0, r1, r2, q0, q1, q2⟩ := HB2.out.r
      go_wp2_with fail
      refine bodyPost_ret (v := .agg #[.slice none 0 0, .int .i64 0, .int .i64 8]) (by simp [results, Try.results6, go_sem, r0, r1, r2]) rfl ?_
      exact ⟨none, 0, rfl, OwnPl.nil _ _, ((HB2.out.b.bel.setCell (by show w.heap.size ≤ w.heap.size + 1 + 1 + 1; omega) _).setCell (by show w.heap.size ≤ w.heap.size + 1 + 1 + 1; omega) _).setCell (by show w.heap.size ≤ w.heap.size + 1 + 1 + 1; omega) _⟩
    · rw [hi] at hI
      by_cases hn : dOne side l ax ay bx b_y d0 = -1
      · have HE : Hid (wayOut side l ax ay bx b_y d0 L = (6, 0, [])) := by show _ = _; simp [wayOut, hr, hi, hn]
        rw [HE.out]
        rw [hn] at hDi
        clear hr hd hL hDs HE hs hi hl hax hay hbx hby hn
        go_enter Try.func6, Try.ntmps6
        go_wp2_with fail
        refine (hR _ ((H.out.below HB.out.b.bel).mono HB.out.b.bel.size)).mono ?_
        rintro e w1 ⟨rfl, hb1⟩
        have HB1 := Lib.hid (HB.out.below hb1)
        clear hb1 HB
        obtain ⟨g0, g1, _, _⟩ := HB1.out.b.g
        obtain ⟨a0, a1⟩ := HB1.out.b.f
        obtain ⟨t0, t1⟩ := HB1.out.b.t
        go_wp2_with fail
        refine (hI _).mono ?_
        rintro e w2 ⟨rfl, hb2⟩
        have HB2 := Lib.hid (HB1.out.below hb2)
        clear hb2 HB1 g0 g1 a0 a1 t0 t1
        obtain ⟨g0, g1, _, _⟩ := HB2.out.b.g
        obtain ⟨a0, a1⟩ := HB2.out.b.f
        obtain ⟨t0, t1⟩ := HB2.out.b.t
        go_wp2_with fail
        refine (hDi _ ((H.out.below HB2.out.b.bel).mono HB2.out.b.bel.size)).mono ?_
        rintro e w3 ⟨rfl, hb3⟩
        have HB3 := Lib.hid (HB2.out.below hb3)
        clear hb3 HB2 g0 g1 a0 a1 t0 t1
        obtain ⟨r0, r1, r2, q0, q1, q2⟩ := HB3.out.r
        go_wp2_with fail
        refine bodyPost_ret (v := .agg #[.slice none 0 0, .int .i64 0, .int .i64 6]) (by simp [results, Try.results6, go_sem, r0, r1, r2]) rfl ?_
        exact ⟨none, 0, rfl, OwnPl.nil _ _, ((HB3.out.b.bel.setCell (by show w.heap.size ≤ w.heap.size + 1 + 1 + 1; omega) _).setCell (by show w.heap.size ≤ w.heap.size + 1 + 1 + 1; omega) _).setCell (by show w.heap.size ≤ w.heap.size + 1 + 1 + 1; omega) _⟩
      · have HGOOD : Hid (opn side l ax ay = true ∧ opn side l bx b_y = true ∧ 0 ≤ dk d0 (pn side bx b_y) ∧ dOne side l ax ay bx b_y d0 = dk d0 (pn side bx b_y) ∧ wayOut side l ax ay bx b_y d0 L = (0, dk d0 (pn side bx b_y), L)) := by
          cases ho : (gridRight side l && opn side l ax ay && opn side l bx b_y)
          · exact absurd (by simp [dOne, ho]) hn
          · have h' := ho
            simp only [Bool.and_eq_true] at h'
            have e2 : dOne side l ax ay bx b_y d0 = dk d0 (pn side bx b_y) := by unfold dOne; rw [ho]; rfl
            have hgd := hd (by simp [h'.1.1, h'.1.2])
            have h3 : 0 ≤ dk d0 (pn side bx b_y) := by
              rcases hgd.lab _ (opn_parts hr h'.2).2.1 with e | ⟨e, _⟩
              · rw [e2] at hn; exact absurd e hn
              · exact e
            refine ⟨h'.1.2, h'.2, h3, e2, ?_⟩
            have h4 : ¬ dOne side l ax ay bx b_y d0 < 0 := by rw [e2]; omega
            simp [wayOut, hr, hi, h4]
        obtain ⟨ho1, ho2, hv0, hde, hwe⟩ := HGOOD.out
        have HGD := Lib.hid (hd (by simp [hr, ho1]))
        have HWT := Lib.hid (hL (by simp [hr, ho1, ho2]))
        have hW := fun AD cD w h hD => pWayTo_any side ax ay bx b_y A c l AD cD d0 L w h hD hr ho1 ho2 HGD.out hv0 HWT.out
        have hdo : dOut side l ax ay d0 = d0 := by simp [dOut, hr, ho1]
        rw [hwe]
        rw [hde] at hDi
        rw [hdo] at hDs
        have hne : ¬ dk d0 (pn side bx b_y) = -1 := by omega
        generalize dk d0 (pn side bx b_y) = S at *
        have hnb : (S == -1) = false := by simpa using hne
        clear hr hd hL hs hi hl hax hay hbx hby hn HGOOD ho1 ho2 hv0 hde hwe hdo HGD HWT
        go_enter Try.func6, Try.ntmps6
        go_wp2_with fail
        refine (hR _ ((H.out.below HB.out.b.bel).mono HB.out.b.bel.size)).mono ?_
        rintro e w1 ⟨rfl, hb1⟩
        have HB1 := Lib.hid (HB.out.below hb1)
        clear hb1 HB
        obtain ⟨g0, g1, _, _⟩ := HB1.out.b.g
        obtain ⟨a0, a1⟩ := HB1.out.b.f
        obtain ⟨t0, t1⟩ := HB1.out.b.t
        go_wp2_with fail
        refine (hI _).mono ?_
        rintro e w2 ⟨rfl, hb2⟩
        have HB2 := Lib.hid (HB1.out.below hb2)
        clear hb2 HB1 g0 g1 a0 a1 t0 t1
        obtain ⟨g0, g1, _, _⟩ := HB2.out.b.g
        obtain ⟨a0, a1⟩ := HB2.out.b.f
        obtain ⟨t0, t1⟩ := HB2.out.b.t
        go_wp2_with fail
        refine (hDi _ ((H.out.below HB2.out.b.bel).mono HB2.out.b.bel.size)).mono ?_
        rintro e w3 ⟨rfl, hb3⟩
        have HB3 := Lib.hid (HB2.out.below hb3)
        clear hb3 HB2 g0 g1 a0 a1 t0 t1 hI hDi hR
        go_upto_region 8 with fail
        have HS : Hid (∀ W, B4 w side A c l ax ay bx b_y W → W.cell? ⟨w.heap.size, 0, none⟩ = some (.int .i64 side) ∧ W.cell? ⟨w.heap.size, 1, none⟩ = some (.slice A l.length c) ∧ W.cell? ⟨w.heap.size + 1, 0, none⟩ = some (.int .i64 ax) ∧ W.cell? ⟨w.heap.size + 1, 1, none⟩ = some (.int .i64 ay) ∧ W.cell? ⟨w.heap.size + 1 + 1, 0, none⟩ = some (.int .i64 bx) ∧ W.cell? ⟨w.heap.size + 1 + 1, 1, none⟩ = some (.int .i64 b_y)) := fun W h => ⟨h.b.g.c0, h.b.g.c1, h.b.f.c0, h.b.f.c1, h.b.t.c0, h.b.t.c1⟩
        have q0 := HB3.out.below (bel_D _)
        have hkeep := HS.out _ q0
        go_region_held3 (fun w' => w'.cell? ⟨w.heap.size, 0, none⟩ = some (.int .i64 side) ∧ w'.cell? ⟨w.heap.size, 1, none⟩ = some (.slice A l.length c) ∧ w'.cell? ⟨w.heap.size + 1, 0, none⟩ = some (.int .i64 ax) ∧ w'.cell? ⟨w.heap.size + 1, 1, none⟩ = some (.int .i64 ay) ∧ w'.cell? ⟨w.heap.size + 1 + 1, 0, none⟩ = some (.int .i64 bx) ∧ w'.cell? ⟨w.heap.size + 1 + 1, 1, none⟩ = some (.int .i64 b_y))
          (first | (with_reducible exact hkeep) | (have e := hkeep; exact ⟨(far3 (by omega) _ _ _).trans e.1, (far3 (by omega) _ _ _).trans e.2.1, (far3 (by omega) _ _ _).trans e.2.2.1, (far3 (by omega) _ _ _).trans e.2.2.2.1, (far3 (by omega) _ _ _).trans e.2.2.2.2.1, (far3 (by omega) _ _ _).trans e.2.2.2.2.2⟩) | go_keep)
          (first
            | (go_at_call 27; have _c := q1; clear _c; refine (hW A4 c4 v1 ((H.out.below q1.b.bel).mono q1.b.bel.size) (OwnI.ri HO4.out)).mono ?_; rintro e v2 ⟨A5, c5, rfl, o5, hb⟩; clear hkeep; have q2 := q1.below hb; have hkeep := HS.out _ q2; have HO5 := Lib.hid (OwnPl.lower (base' := w.heap.size + 1 + 1 + 1 + 1) (by have := q1.siz; omega) o5); obtain ⟨r0, r1, r2, y0, y1, y2⟩ := q2.r; clear hb o5)
            | (go_at_call 9; refine (hDs w3.drew ((H.out.below q0.b.bel).mono q0.b.bel.size)).mono ?_; rintro e v1 ⟨A4, c4, rfl, o4, hb⟩; clear hkeep; have q1 := q0.below hb; have hkeep := HS.out _ q1; have HO4 := Lib.hid o4; clear hb o4))
        all_goals
          have Q2 := Lib.hid q2
          obtain ⟨r0, r1, r2, y0, y1, y2⟩ := Q2.out.r
          clear hkeep q0 q1 q2
          go_wp2_with fail
          refine bodyPost_ret (v := .agg #[.slice A5 L.length c5, .int .i64 S, .int .i64 0]) (by simp [results, Try.results6, go_sem, r0, r1, r2]) rfl ?_
          refine ⟨A5, c5, rfl, ?_, ((Q2.out.b.bel.setCell (by show w.heap.size ≤ w.heap.size + 1 + 1 + 1; omega) _).setCell (by show w.heap.size ≤ w.heap.size + 1 + 1 + 1; omega) _).setCell (by show w.heap.size ≤ w.heap.size + 1 + 1 + 1; omega) _⟩
          exact OwnPl.lower (by omega) (OwnPl.set_below (base := w.heap.size + 1 + 1 + 1 + 1) (by show w.heap.size + 1 + 1 + 1 < _; omega) _ (OwnPl.set_below (by show w.heap.size + 1 + 1 + 1 < _; omega) _ (OwnPl.set_below (by show w.heap.size + 1 + 1 + 1 < _; omega) _ HO5.out)))
end Go.Proofs.Ytmjbefjkkncjlaa
