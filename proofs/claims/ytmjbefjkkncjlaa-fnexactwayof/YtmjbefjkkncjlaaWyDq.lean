/- The program's ways: Dist. -/
import Derived.Test.YtmjbefjkkncjlaaWyDp
import Derived.Test.YtmjbefjkkncjlaaWyH
namespace Go.Proofs.Ytmjbefjkkncjlaa
open Go.RowKit
set_option linter.unusedVariables false
set_option linter.unusedSimpArgs false

set_option maxRecDepth 100000 in
set_option maxHeartbeats 1000000 in
theorem pDist_any (side x y u v : Int) (A : Option Addr) (c : Nat) (l : List Int) (d0 : List Int) (w : World) (h : RI w w.heap.size A l) (hl : l.length ≤ 1000000000) (hx : In64 x) (hy : In64 y) (hu : In64 u) (hv : In64 v) (hd : (gridRight side l && opn side l x y) = true → GDist side l x y d0) :
    Calls Try.prog 14 #[.agg #[.int .i64 side, .slice A l.length c], .agg #[.int .i64 x, .int .i64 y], .agg #[.int .i64 u, .int .i64 v]] w fun e w' => e = .returned (.int .i64 (dOne side l x y u v d0)) ∧ Below w.heap.size w w' := by
  have HB := Lib.hid (B3.made w side A c l x y u v)
  have H := Lib.hid h
  have hO1 := fun w h => pOpen5_any side x y A c l w h hl hx hy
  have hO2 := fun w h => pOpen5_any side u v A c l w h hl hu hv
  have hD := fun w h => pDists_any side x y A c l d0 w h hl hx hy hd
  clear h hu hv
  cases ho : (gridRight side l && opn side l x y)
  · have HE : Hid (dOne side l x y u v d0 = -1) := by show _ = _; rw [dOne, ho]; rfl
    rw [HE.out]
    rw [ho] at hO1
    clear ho hd hx hy hl hD
    go_enter Try.func14, Try.ntmps14
    go_wp2_with fail
    refine (hO1 _ ((H.out.below HB.out.bel).mono HB.out.bel.size)).mono ?_
    rintro e w1 ⟨rfl, hb1⟩
    have HB1 := Lib.hid (HB.out.below hb1)
    clear hb1 HB
    go_wp2_with fail
    go_ret
    exact ⟨rfl, HB1.out.bel⟩
  · have hr : gridRight side l = true := by simp only [Bool.and_eq_true] at ho; exact ho.1
    have hop := ho
    rw [hr, Bool.true_and] at hop
    cases hq : opn side l u v
    · have HE : Hid (dOne side l x y u v d0 = -1) := by show _ = _; rw [dOne, hq, Bool.and_false]; rfl
      rw [HE.out]
      rw [ho] at hO1
      rw [hq, Bool.and_false] at hO2
      clear ho hq hd hx hy hl hD hr hop
      go_enter Try.func14, Try.ntmps14
      go_wp2_with fail
      refine (hO1 _ ((H.out.below HB.out.bel).mono HB.out.bel.size)).mono ?_
      rintro e w1 ⟨rfl, hb1⟩
      have HB1 := Lib.hid (HB.out.below hb1)
      clear hb1 HB
      obtain ⟨g0, g1, _, _⟩ := HB1.out.g
      obtain ⟨f0, f1⟩ := HB1.out.f
      obtain ⟨t0, t1⟩ := HB1.out.t
      go_wp2_with fail
      refine (hO2 _ ((H.out.below HB1.out.bel).mono HB1.out.bel.size)).mono ?_
      rintro e w2 ⟨rfl, hb2⟩
      have HB2 := Lib.hid (HB1.out.below hb2)
      clear hb2 HB1 g0 g1 f0 f1 t0 t1
      go_wp2_with fail
      go_ret
      exact ⟨rfl, HB2.out.bel⟩
    · have HE : Hid (dOne side l x y u v d0 = dk d0 (pn side u v)) := by show _ = _; rw [dOne, ho, hq]; rfl
      have hgd := hd ho
      have HED : Hid (dOut side l x y d0 = d0) := by show _ = _; rw [dOut, ho]; rfl
      have hgu := (opn_parts hr hq).1
      have hNu := fun w => pNum5_any (side := side) (x := u) (y := v) (l := l) hr hgu w
      have hlu := (pn_lt hr hgu).1
      have hdl : d0.length = l.length := hgd.len
      have hluI : ((pn side u v : Nat) : Int) < (d0.length : Int) := by omega
      have hlu2 : pn side u v < d0.length := by omega
      have HLU := Lib.hid hlu2
      have HDK : Hid (∀ hh : pn side u v < d0.length, dk d0 (pn side u v) = d0[pn side u v]) := fun hh => dk_lt hh
      rw [HE.out]
      rw [HED.out] at hD
      unfold NOut at hD
      rw [ho] at hO1
      rw [hr, hq, Bool.and_self] at hO2
      clear ho hq hd hx hy hl hr hop hgd hgu hlu hdl hlu2
      go_enter Try.func14, Try.ntmps14
      go_wp2_with fail
      refine (hO1 _ ((H.out.below HB.out.bel).mono HB.out.bel.size)).mono ?_
      rintro e w1 ⟨rfl, hb1⟩
      have HB1 := Lib.hid (HB.out.below hb1)
      clear hb1 HB
      obtain ⟨g0, g1, _, _⟩ := HB1.out.g
      obtain ⟨f0, f1⟩ := HB1.out.f
      obtain ⟨t0, t1⟩ := HB1.out.t
      go_wp2_with fail
      refine (hO2 _ ((H.out.below HB1.out.bel).mono HB1.out.bel.size)).mono ?_
      rintro e w2 ⟨rfl, hb2⟩
      have HB2 := Lib.hid (HB1.out.below hb2)
      clear hb2 HB1 g0 g1 f0 f1 t0 t1
      have HBd := Lib.hid (HB2.out.below (bel_D _))
      have HSB : Hid (∀ wr, B3 w side A c l x y u v wr → wr.cell? ⟨w.heap.size, 0, none⟩ = some (.int .i64 side) ∧ wr.cell? ⟨w.heap.size, 1, none⟩ = some (.slice A l.length c) ∧ wr.cell? ⟨w.heap.size + 1, 0, none⟩ = some (.int .i64 x) ∧ wr.cell? ⟨w.heap.size + 1, 1, none⟩ = some (.int .i64 y) ∧ wr.cell? ⟨w.heap.size + 1 + 1, 0, none⟩ = some (.int .i64 u) ∧ wr.cell? ⟨w.heap.size + 1 + 1, 1, none⟩ = some (.int .i64 v)) := fun wr h => ⟨h.g.c0, h.g.c1, h.f.c0, h.f.c1, h.t.c0, h.t.c1⟩
      have hkeep := HSB.out _ HBd.out
      go_upto_region 3 with fail
      refine wp_region_noPanic ?_
      refine wp_region_held_drew (S := (fun w' => w'.cell? ⟨w.heap.size, 0, none⟩ = some (.int .i64 side) ∧ w'.cell? ⟨w.heap.size, 1, none⟩ = some (.slice A l.length c) ∧ w'.cell? ⟨w.heap.size + 1, 0, none⟩ = some (.int .i64 x) ∧ w'.cell? ⟨w.heap.size + 1, 1, none⟩ = some (.int .i64 y) ∧ w'.cell? ⟨w.heap.size + 1 + 1, 0, none⟩ = some (.int .i64 u) ∧ w'.cell? ⟨w.heap.size + 1 + 1, 1, none⟩ = some (.int .i64 v))) (by kernel_rfl) hkeep (fun hHeld => ?_)
      refine wpAnyH_take (i := 0) (v := ?_) rfl (by kernel_rfl) (by kernel_rfl) (by kernel_rfl) (fun _ _ _ h => h) (Or.inl ⟨by rfl, ?_⟩) (by assumption) ?_
      rotate_left 1
      · (intro w' hSw; (try dsimp only at hSw); go_simp <;> with_reducible rfl)
      simp only [Act.put, List.getElem_toArray, List.getElem_cons_succ, List.getElem_cons_zero, List.setIfInBounds_toArray, List.set_cons_zero, List.set_cons_succ]
      refine wpAnyH_take (i := 1) (v := ?_) rfl (by kernel_rfl) (by kernel_rfl) (by kernel_rfl) (fun _ _ _ h => h) (Or.inl ⟨by rfl, ?_⟩) (by assumption) ?_
      rotate_left 1
      · (intro w' hSw; (try dsimp only at hSw); go_simp <;> with_reducible rfl)
      simp only [Act.put, List.getElem_toArray, List.getElem_cons_succ, List.getElem_cons_zero, List.setIfInBounds_toArray, List.set_cons_zero, List.set_cons_succ]
      refine wpAnyH_take (i := 3) (v := ?_) rfl (by kernel_rfl) (by kernel_rfl) (by kernel_rfl) (fun _ _ _ h => h) (Or.inl ⟨by rfl, ?_⟩) (by assumption) ?_
      rotate_left 1
      · (intro w' hSw; (try dsimp only at hSw); go_simp <;> with_reducible rfl)
      simp only [Act.put, List.getElem_toArray, List.getElem_cons_succ, List.getElem_cons_zero, List.setIfInBounds_toArray, List.set_cons_zero, List.set_cons_succ]
      refine wpAnyH_take (i := 4) (v := ?_) rfl (by kernel_rfl) (by kernel_rfl) (by kernel_rfl) (fun _ _ _ h => h) (Or.inl ⟨by rfl, ?_⟩) (by assumption) ?_
      rotate_left 1
      · (intro w' hSw; (try dsimp only at hSw); go_simp <;> with_reducible rfl)
      simp only [Act.put, List.getElem_toArray, List.getElem_cons_succ, List.getElem_cons_zero, List.setIfInBounds_toArray, List.set_cons_zero, List.set_cons_succ]
      refine wpAnyH_take (i := 5) (v := ?_) rfl (by kernel_rfl) (by kernel_rfl) (by kernel_rfl) (fun _ _ _ h => h) (Or.inl ⟨by rfl, ?_⟩) (by assumption) ?_
      rotate_left 1
      · (intro w' hSw; (try dsimp only at hSw); go_simp <;> with_reducible rfl)
      simp only [Act.put, List.getElem_toArray, List.getElem_cons_succ, List.getElem_cons_zero, List.setIfInBounds_toArray, List.set_cons_zero, List.set_cons_succ]
      refine wpAnyH_ready (rs := [2]) (by kernel_rfl) (by simp) ?_
      refine (AllReadyH.cons rfl (fun K hK => ?_) AllReadyH.nil)
      go_simp
      (first | (go_at_call 39; have _c := v1; clear _c; refine (hNu v1).mono ?_; rintro e v2 ⟨rfl, hb⟩; have HBv2 := Lib.hid (HBv1.out.below hb); have hch2 := (hb.cell (p := ⟨gh, pn side u v, none⟩) hglt).trans hch; clear hkeep; have hkeep := HSB.out _ HBv2.out; clear hb) | (go_at_call 9; refine (hD _ ((H.out.below HBd.out.bel).mono HBd.out.bel.size)).mono ?_; rintro e v1 ⟨A4, c4, rfl, o4, hb⟩; have HBv1 := Lib.hid (HBd.out.below hb); obtain ⟨gh, rfl, _, hglt, hch, _⟩ := o4.at_ (j := pn side u v) HLU.out; rw [← HDK.out HLU.out] at hch; clear hkeep; have hkeep := HSB.out _ HBv1.out; clear o4 hb))
      try go_wp2_with fail
      refine hK.out _ _ ?_ (fun hHeld => ?_)
      · exact hkeep
      clear hK K
      try simp only [Act.put, List.getElem_toArray, List.getElem_cons_succ, List.getElem_cons_zero, List.setIfInBounds_toArray, List.set_cons_zero, List.set_cons_succ]
      refine wpAnyH_ready (rs := [6]) (by kernel_rfl) (by simp) ?_
      refine (AllReadyH.cons rfl (fun K hK => ?_) AllReadyH.nil)
      go_simp
      (first | (go_at_call 39; have _c := v1; clear _c; refine (hNu v1).mono ?_; rintro e v2 ⟨rfl, hb⟩; have HBv2 := Lib.hid (HBv1.out.below hb); have hch2 := (hb.cell (p := ⟨gh, pn side u v, none⟩) hglt).trans hch; clear hkeep; have hkeep := HSB.out _ HBv2.out; clear hb) | (go_at_call 9; refine (hD _ ((H.out.below HBd.out.bel).mono HBd.out.bel.size)).mono ?_; rintro e v1 ⟨A4, c4, rfl, o4, hb⟩; have HBv1 := Lib.hid (HBd.out.below hb); obtain ⟨gh, rfl, _, hglt, hch, _⟩ := o4.at_ (j := pn side u v) HLU.out; rw [← HDK.out HLU.out] at hch; clear hkeep; have hkeep := HSB.out _ HBv1.out; clear o4 hb))
      try go_wp2_with fail
      refine hK.out _ _ ?_ (fun hHeld => ?_)
      · exact hkeep
      clear hK K
      try simp only [Act.put, List.getElem_toArray, List.getElem_cons_succ, List.getElem_cons_zero, List.setIfInBounds_toArray, List.set_cons_zero, List.set_cons_succ]
      refine wpAnyH_take (i := 7) (v := ?_) rfl (by kernel_rfl) (by kernel_rfl) (by kernel_rfl) (fun _ _ _ h => h) (Or.inl ⟨by rfl, ?_⟩) (by assumption) ?_
      rotate_left 1
      · (intro w' hSw; (try dsimp only at hSw); go_simp <;> with_reducible rfl)
      simp only [Act.put, List.getElem_toArray, List.getElem_cons_succ, List.getElem_cons_zero, List.setIfInBounds_toArray, List.set_cons_zero, List.set_cons_succ]
      refine wpAnyH_ready (rs := [8]) (by kernel_rfl) (by simp) ?_
      refine (AllReadyH.cons rfl (fun K hK => ?_) AllReadyH.nil)
      go_simp
      refine hK.out _ _ ?_ (fun hHeld => ?_)
      · exact hkeep
      clear hK K
      try simp only [Act.put, List.getElem_toArray, List.getElem_cons_succ, List.getElem_cons_zero, List.setIfInBounds_toArray, List.set_cons_zero, List.set_cons_succ]
      refine wpAnyH_take (i := 9) (v := ?_) rfl (by kernel_rfl) (by kernel_rfl) (by kernel_rfl) (fun _ _ _ h => h) (Or.inl ⟨by rfl, ?_⟩) (by assumption) ?_
      rotate_left 1
      · (intro w' hSw; (try dsimp only at hSw); go_simp <;> with_reducible rfl)
      simp only [Act.put, List.getElem_toArray, List.getElem_cons_succ, List.getElem_cons_zero, List.setIfInBounds_toArray, List.set_cons_zero, List.set_cons_succ]
      refine wpAnyH_done (by kernel_rfl) ?_ _
      refine NoPanic.normal ?_
      all_goals
        go_wp2
        go_ret
        exact ⟨rfl, HBv2.out.bel⟩
end Go.Proofs.Ytmjbefjkkncjlaa
