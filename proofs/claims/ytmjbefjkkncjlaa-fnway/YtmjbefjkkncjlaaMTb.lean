/- Several texts in one: WyH, WyY, WyDp, WyDq. -/
import Derived.Test.YtmjbefjkkncjlaaWyF
import Derived.Deep.RegionWith
import Derived.Test.YtmjbefjkkncjlaaWyZ
import Derived.Deep.LoopGhost
namespace Go.Proofs.Ytmjbefjkkncjlaa
open Go.RowKit
set_option linter.unusedVariables false
set_option linter.unusedSimpArgs false

/-- The boxes of a map and two places. -/
structure B3 (w : World) (side : Int) (A : Option Addr) (c : Nat) (l : List Int) (x y u v : Int) (wr : World) : Prop where
  g : GB wr w.heap.size side (.slice A l.length c)
  f : PlB wr (w.heap.size + 1) x y
  t : PlB wr (w.heap.size + 1 + 1) u v
  bel : Below w.heap.size w wr
  siz : w.heap.size + 1 + 1 < wr.heap.size
theorem B3.below {w wr wr' : World} {side : Int} {A : Option Addr} {c : Nat} {l : List Int} {x y u v : Int} (h : B3 w side A c l x y u v wr) (hb : Below wr.heap.size wr wr') : B3 w side A c l x y u v wr' := by
  have hz := h.siz
  exact ⟨h.g.below hb (by omega), h.f.below hb (by omega), h.t.below hb hz, h.bel.trans (hb.mono (by omega)), Nat.lt_of_lt_of_le hz hb.size⟩
theorem B3.made (w : World) (side : Int) (A : Option Addr) (c : Nat) (l : List Int) (x y u v : Int) : B3 w side A c l x y u v (((w.alloc (.cells #[.int .i64 side, .slice A l.length c] 25)).alloc (.cells #[.int .i64 x, .int .i64 y] 27)).alloc (.cells #[.int .i64 u, .int .i64 v] 27)) :=
  ⟨⟨by simp [go_sem], by simp [go_sem], by simp [go_sem], by simp [go_sem]⟩, ⟨by simp [go_sem], by simp [go_sem]⟩, ⟨by simp [go_sem], by simp [go_sem]⟩, bel_T (bel_A _ _) (bel_T (bel_A _ _) (bel_A _ _)), by simp⟩

set_option maxRecDepth 100000 in
set_option maxHeartbeats 1000000 in
theorem mDist_any (side x y u v : Int) (A : Option Addr) (c : Nat) (l : List Int) (d0 : List Int) (w : World) (h : RI w w.heap.size A l) (hl : l.length ≤ 1000000000) (hd : (gridRight side l && opn side l x y) = true → GDist side l x y d0) :
    Calls Try.prog 15 #[.agg #[.int .i64 side, .slice A l.length c], .agg #[.int .i64 x, .int .i64 y], .agg #[.int .i64 u, .int .i64 v]] w fun e w' => e = .returned (.int .i64 (dOne side l x y u v d0)) ∧ Below w.heap.size w w' := by
  have HB := Lib.hid (B3.made w side A c l x y u v)
  have H := Lib.hid h
  have hR := fun w h => mRight_any side A c l w h hl
  clear h hl
  cases hr : gridRight side l
  · have HE : Hid (dOne side l x y u v d0 = -1) := by show _ = _; simp [dOne, hr]
    rw [HE.out]
    rw [hr] at hR
    clear hr hd
    go_enter Try.func15, Try.ntmps15
    go_wp2_with fail
    refine (hR _ ((H.out.below HB.out.bel).mono HB.out.bel.size)).mono ?_
    rintro e w1 ⟨rfl, hb1⟩
    have HB1 := Lib.hid (HB.out.below hb1)
    clear hb1 HB
    go_wp2
    go_ret
    exact ⟨rfl, HB1.out.bel⟩
  · have hO1 := fun w h => mOpen5_any side x y A c l w h hr
    have hO2 := fun w h => mOpen5_any side u v A c l w h hr
    cases ho : opn side l x y
    · have HE : Hid (dOne side l x y u v d0 = -1) := by show _ = _; simp [dOne, ho]
      rw [HE.out]
      rw [hr] at hR
      rw [ho] at hO1
      clear hr hd ho
      go_enter Try.func15, Try.ntmps15
      go_wp2_with fail
      refine (hR _ ((H.out.below HB.out.bel).mono HB.out.bel.size)).mono ?_
      rintro e w1 ⟨rfl, hb1⟩
      have HB1 := Lib.hid (HB.out.below hb1)
      clear hb1 HB
      obtain ⟨g0, g1, _, _⟩ := HB1.out.g
      obtain ⟨f0, f1⟩ := HB1.out.f
      obtain ⟨t0, t1⟩ := HB1.out.t
      go_wp2_with fail
      refine (hO1 _ ((H.out.below HB1.out.bel).mono HB1.out.bel.size)).mono ?_
      rintro e w2 ⟨rfl, hb2⟩
      have HB2 := Lib.hid (HB1.out.below hb2)
      clear hb2 HB1 g0 g1 f0 f1 t0 t1
      go_wp2
      go_ret
      exact ⟨rfl, HB2.out.bel⟩
    · cases hq : opn side l u v
      · have HE : Hid (dOne side l x y u v d0 = -1) := by show _ = _; simp [dOne, hq]
        rw [HE.out]
        rw [hr] at hR
        rw [ho] at hO1
        rw [hq] at hO2
        clear hr hd ho hq
        go_enter Try.func15, Try.ntmps15
        go_wp2_with fail
        refine (hR _ ((H.out.below HB.out.bel).mono HB.out.bel.size)).mono ?_
        rintro e w1 ⟨rfl, hb1⟩
        have HB1 := Lib.hid (HB.out.below hb1)
        clear hb1 HB
        obtain ⟨g0, g1, _, _⟩ := HB1.out.g
        obtain ⟨f0, f1⟩ := HB1.out.f
        obtain ⟨t0, t1⟩ := HB1.out.t
        go_wp2_with fail
        refine (hO1 _ ((H.out.below HB1.out.bel).mono HB1.out.bel.size)).mono ?_
        rintro e w2 ⟨rfl, hb2⟩
        have HB2 := Lib.hid (HB1.out.below hb2)
        clear hb2 HB1 g0 g1 f0 f1 t0 t1
        obtain ⟨g0, g1, _, _⟩ := HB2.out.g
        obtain ⟨f0, f1⟩ := HB2.out.f
        obtain ⟨t0, t1⟩ := HB2.out.t
        go_wp2_with fail
        refine (hO2 _ ((H.out.below HB2.out.bel).mono HB2.out.bel.size)).mono ?_
        rintro e w3 ⟨rfl, hb3⟩
        have HB3 := Lib.hid (HB2.out.below hb3)
        clear hb3 HB2 g0 g1 f0 f1 t0 t1
        go_wp2
        go_ret
        exact ⟨rfl, HB3.out.bel⟩
      · have HE : Hid (dOne side l x y u v d0 = dk d0 (pn side u v)) := by show _ = _; simp [dOne, hr, ho, hq]
        rw [HE.out]
        have hgd := hd (by simp [hr, ho])
        have hD := fun w h => mL05Dists_any side x y A c l d0 w h hr ho hgd
        have hgu := (opn_parts hr hq).1
        have hAu := fun A n c w => mAt5_any hr hgu A n c w
        have hlu := (pn_lt hr hgu).1
        have hdl : d0.length = l.length := hgd.len
        have hluI : ((pn side u v : Nat) : Int) < (d0.length : Int) := by omega
        have hlu2 : pn side u v < d0.length := by omega
        have HLU := Lib.hid hlu2
        have HDK : Hid (∀ hh : pn side u v < d0.length, dk d0 (pn side u v) = d0[pn side u v]) := fun hh => dk_lt hh
        rw [hr] at hR
        rw [ho] at hO1
        rw [hq] at hO2
        clear hr hd ho hq hgd hgu hlu hdl hlu2
        go_enter Try.func15, Try.ntmps15
        go_wp2_with fail
        refine (hR _ ((H.out.below HB.out.bel).mono HB.out.bel.size)).mono ?_
        rintro e w1 ⟨rfl, hb1⟩
        have HB1 := Lib.hid (HB.out.below hb1)
        clear hb1 HB
        obtain ⟨g0, g1, _, _⟩ := HB1.out.g
        obtain ⟨f0, f1⟩ := HB1.out.f
        obtain ⟨t0, t1⟩ := HB1.out.t
        go_wp2_with fail
        refine (hO1 _ ((H.out.below HB1.out.bel).mono HB1.out.bel.size)).mono ?_
        rintro e w2 ⟨rfl, hb2⟩
        have HB2 := Lib.hid (HB1.out.below hb2)
        clear hb2 HB1 g0 g1 f0 f1 t0 t1
        obtain ⟨g0, g1, _, _⟩ := HB2.out.g
        obtain ⟨f0, f1⟩ := HB2.out.f
        obtain ⟨t0, t1⟩ := HB2.out.t
        go_wp2_with fail
        refine (hO2 _ ((H.out.below HB2.out.bel).mono HB2.out.bel.size)).mono ?_
        rintro e w3 ⟨rfl, hb3⟩
        have HB3 := Lib.hid (HB2.out.below hb3)
        clear hb3 HB2 g0 g1 f0 f1 t0 t1
        obtain ⟨g0, g1, _, _⟩ := HB3.out.g
        obtain ⟨f0, f1⟩ := HB3.out.f
        obtain ⟨t0, t1⟩ := HB3.out.t
        have HBd := Lib.hid (HB3.out.below (bel_D _))
        have hz3 := HB3.out.siz
        have hz3a : w.heap.size < w3.heap.size := by omega
        have hz3b : w.heap.size + 1 < w3.heap.size := by omega
        have HSB : Hid (∀ wr, B3 w side A c l x y u v wr → wr.cell? ⟨w.heap.size, 0, none⟩ = some (.int .i64 side) ∧ wr.cell? ⟨w.heap.size, 1, none⟩ = some (.slice A l.length c) ∧ wr.cell? ⟨w.heap.size + 1, 0, none⟩ = some (.int .i64 x) ∧ wr.cell? ⟨w.heap.size + 1, 1, none⟩ = some (.int .i64 y) ∧ wr.cell? ⟨w.heap.size + 1 + 1, 0, none⟩ = some (.int .i64 u) ∧ wr.cell? ⟨w.heap.size + 1 + 1, 1, none⟩ = some (.int .i64 v)) := fun wr h => ⟨h.g.c0, h.g.c1, h.f.c0, h.f.c1, h.t.c0, h.t.c1⟩
        have hkeep := HSB.out _ HBd.out
        clear hz3 hz3a hz3b
        go_upto_region 3 with fail
        clear g0 g1 f0 f1 t0 t1
        refine wp_region_noPanic ?_
        refine wp_region_held_drew (S := (fun w' => w'.cell? ⟨w.heap.size, 0, none⟩ = some (.int .i64 side) ∧ w'.cell? ⟨w.heap.size, 1, none⟩ = some (.slice A l.length c) ∧ w'.cell? ⟨w.heap.size + 1, 0, none⟩ = some (.int .i64 x) ∧ w'.cell? ⟨w.heap.size + 1, 1, none⟩ = some (.int .i64 y) ∧ w'.cell? ⟨w.heap.size + 1 + 1, 0, none⟩ = some (.int .i64 u) ∧ w'.cell? ⟨w.heap.size + 1 + 1, 1, none⟩ = some (.int .i64 v))) (by kernel_rfl) hkeep (fun hHeld => ?_)
        refine wpAnyH_take (i := 0) (v := ?_) rfl (by kernel_rfl) (by kernel_rfl) (by kernel_rfl) (fun _ _ _ h => h) (Or.inl ⟨by rfl, ?_⟩) (by assumption) ?_
        rotate_left 1
        · (intro w' hSw; (try dsimp only at hSw); go_simp <;> with_reducible rfl)
        simp only [Act.put, List.getElem_toArray, List.getElem_cons_succ, List.getElem_cons_zero, List.setIfInBounds_toArray, List.set_cons_zero, List.set_cons_succ]
        refine wpAnyH_take (i := 1) (v := ?_) rfl (by kernel_rfl) (by kernel_rfl) (by kernel_rfl) (fun _ _ _ h => h) (Or.inl ⟨by rfl, ?_⟩) (by assumption) ?_
        rotate_left 1
        · (intro w' hSw; (try dsimp only at hSw); go_simp <;> with_reducible rfl)
        simp only [Act.put, List.getElem_toArray, List.getElem_cons_succ, List.getElem_cons_zero, List.setIfInBounds_toArray, List.set_cons_zero, List.set_cons_succ]
        refine wpAnyH_take (i := 3) (v := ?_) rfl (by kernel_rfl) (by kernel_rfl) (by kernel_rfl) (fun _ _ _ h => h) (Or.inl ⟨by rfl, ?_⟩) (by assumption) ?_
        rotate_left 1
        · (intro w' hSw; (try dsimp only at hSw); go_simp <;> with_reducible rfl)
        simp only [Act.put, List.getElem_toArray, List.getElem_cons_succ, List.getElem_cons_zero, List.setIfInBounds_toArray, List.set_cons_zero, List.set_cons_succ]
        refine wpAnyH_take (i := 4) (v := ?_) rfl (by kernel_rfl) (by kernel_rfl) (by kernel_rfl) (fun _ _ _ h => h) (Or.inl ⟨by rfl, ?_⟩) (by assumption) ?_
        rotate_left 1
        · (intro w' hSw; (try dsimp only at hSw); go_simp <;> with_reducible rfl)
        simp only [Act.put, List.getElem_toArray, List.getElem_cons_succ, List.getElem_cons_zero, List.setIfInBounds_toArray, List.set_cons_zero, List.set_cons_succ]
        refine wpAnyH_ready (rs := [2]) (by kernel_rfl) (by simp) ?_
        refine (AllReadyH.cons rfl (fun K hK => ?_) AllReadyH.nil)
        go_simp
        (first | (go_at_call 31; have _c := v1; clear _c; refine (hAu _ _ _ v1).mono ?_; rintro e v2 ⟨rfl, hb⟩; have HBv2 := Lib.hid (HBv1.out.below hb); have hch2 := (hb.cell (p := ⟨gh, pn side u v, none⟩) hglt).trans hch; clear hkeep; have hkeep := HSB.out _ HBv2.out; clear hb) | (go_at_call 30; refine (hD _ ((H.out.below HBd.out.bel).mono HBd.out.bel.size)).mono ?_; rintro e v1 ⟨A4, c4, rfl, o4, hb⟩; have HBv1 := Lib.hid (HBd.out.below hb); obtain ⟨gh, rfl, _, hglt, hch, _⟩ := o4.at_ (j := pn side u v) HLU.out; rw [← HDK.out HLU.out] at hch; clear hkeep; have hkeep := HSB.out _ HBv1.out; clear o4 hb))
        try go_wp2_with fail
        refine hK.out _ _ ?_ (fun hHeld => ?_)
        · exact hkeep
        clear hK K
        try simp only [Act.put, List.getElem_toArray, List.getElem_cons_succ, List.getElem_cons_zero, List.setIfInBounds_toArray, List.set_cons_zero, List.set_cons_succ]
        refine wpAnyH_ready (rs := [5]) (by kernel_rfl) (by simp) ?_
        refine (AllReadyH.cons rfl (fun K hK => ?_) AllReadyH.nil)
        go_simp
        (first | (go_at_call 31; have _c := v1; clear _c; refine (hAu _ _ _ v1).mono ?_; rintro e v2 ⟨rfl, hb⟩; have HBv2 := Lib.hid (HBv1.out.below hb); have hch2 := (hb.cell (p := ⟨gh, pn side u v, none⟩) hglt).trans hch; clear hkeep; have hkeep := HSB.out _ HBv2.out; clear hb) | (go_at_call 30; refine (hD _ ((H.out.below HBd.out.bel).mono HBd.out.bel.size)).mono ?_; rintro e v1 ⟨A4, c4, rfl, o4, hb⟩; have HBv1 := Lib.hid (HBd.out.below hb); obtain ⟨gh, rfl, _, hglt, hch, _⟩ := o4.at_ (j := pn side u v) HLU.out; rw [← HDK.out HLU.out] at hch; clear hkeep; have hkeep := HSB.out _ HBv1.out; clear o4 hb))
        try go_wp2_with fail
        refine hK.out _ _ ?_ (fun hHeld => ?_)
        · exact hkeep
        clear hK K
        try simp only [Act.put, List.getElem_toArray, List.getElem_cons_succ, List.getElem_cons_zero, List.setIfInBounds_toArray, List.set_cons_zero, List.set_cons_succ]
        refine wpAnyH_take (i := 6) (v := ?_) rfl (by kernel_rfl) (by kernel_rfl) (by kernel_rfl) (fun _ _ _ h => h) (Or.inl ⟨by rfl, ?_⟩) (by assumption) ?_
        rotate_left 1
        · (intro w' hSw; (try dsimp only at hSw); go_simp <;> with_reducible rfl)
        simp only [Act.put, List.getElem_toArray, List.getElem_cons_succ, List.getElem_cons_zero, List.setIfInBounds_toArray, List.set_cons_zero, List.set_cons_succ]
        refine wpAnyH_ready (rs := [7]) (by kernel_rfl) (by simp) ?_
        refine (AllReadyH.cons rfl (fun K hK => ?_) AllReadyH.nil)
        go_simp
        refine hK.out _ _ ?_ (fun hHeld => ?_)
        · exact hkeep
        clear hK K
        try simp only [Act.put, List.getElem_toArray, List.getElem_cons_succ, List.getElem_cons_zero, List.setIfInBounds_toArray, List.set_cons_zero, List.set_cons_succ]
        refine wpAnyH_take (i := 8) (v := ?_) rfl (by kernel_rfl) (by kernel_rfl) (by kernel_rfl) (fun _ _ _ h => h) (Or.inl ⟨by rfl, ?_⟩) (by assumption) ?_
        rotate_left 1
        · (intro w' hSw; (try dsimp only at hSw); go_simp <;> with_reducible rfl)
        simp only [Act.put, List.getElem_toArray, List.getElem_cons_succ, List.getElem_cons_zero, List.setIfInBounds_toArray, List.set_cons_zero, List.set_cons_succ]
        refine wpAnyH_done (by kernel_rfl) ?_ _
        refine NoPanic.normal ?_
        all_goals
          go_wp2
          go_ret
          exact ⟨rfl, HBv2.out.bel⟩
end Go.Proofs.Ytmjbefjkkncjlaa

namespace Go.Proofs.Ytmjbefjkkncjlaa
open Go.RowKit Go.Shelf
set_option linter.unusedVariables false
set_option linter.unusedSimpArgs false
attribute [local go_sem] Oper.semAt_some

theorem done_snoc {side : Int} {l : List Int} {px py : Int} (pre : List (StepTo side l px py)) (x : StepTo side l px py) : (fun j => (∃ y ∈ pre, j = pn side y.1.x y.1.y) ∨ j = pn side x.1.x x.1.y) = (fun j => ∃ y ∈ pre ++ [x], j = pn side y.1.x y.1.y) := by
  funext j
  apply propext
  constructor
  · rintro (⟨y, h1, h2⟩ | h)
    · exact ⟨y, by simp [h1], h2⟩
    · exact ⟨x, by simp, h⟩
  · rintro ⟨y, h1, h2⟩
    rcases List.mem_append.1 h1 with h | h
    · exact .inl ⟨y, h, h2⟩
    · simp only [List.mem_singleton] at h
      subst h
      exact .inr h2
/-- Ahead of the queue: the boxes, the row of sums. -/
structure DV (w : World) (side : Int) (A : Option Addr) (c : Nat) (l : List Int) (fx fy : Int) (gd bd : Nat) (d : List Int) (wr : World) : Prop where
  b2 : B2 w side A c l fx fy wr
  d0 : wr.cell? ⟨bd, 0, none⟩ = some (.slice (some ⟨gd, 0, none⟩) d.length l.length)
  dd : OwnI 2 .i64 wr w.heap.size (.slice (some ⟨gd, 0, none⟩) d.length l.length) d
  nd : w.heap.size + 1 < gd ∧ gd < bd ∧ bd < wr.heap.size
theorem DV.below {w wr wr' : World} {side : Int} {A : Option Addr} {c : Nat} {l : List Int} {fx fy : Int} {gd bd : Nat} {d : List Int} (h : DV w side A c l fx fy gd bd d wr) (hb : Below wr.heap.size wr wr') : DV w side A c l fx fy gd bd d wr' := by
  obtain ⟨h1, h2, h3⟩ := h.nd
  exact ⟨h.b2.below hb, (hb.cell (p := ⟨bd, 0, none⟩) h3).trans h.d0, h.dd.keep hb, h1, h2, Nat.lt_of_lt_of_le h3 hb.size⟩
theorem DV.store {w wr : World} {side : Int} {A : Option Addr} {c : Nat} {l : List Int} {fx fy : Int} {gd bd : Nat} {d : List Int} (h : DV w side A c l fx fy gd bd d wr) (j : Nat) (x : Int) : DV w side A c l fx fy gd bd (d.set j x) (wr.setCell ⟨gd, j, none⟩ (.int .i64 x)) := by
  obtain ⟨h1, h2, h3⟩ := h.nd
  have ht := Trn.set wr gd j (.int .i64 x)
  have hz := h.b2.siz
  have e1 := ht.block w.heap.size (by omega) (by omega)
  have e2 := ht.block (w.heap.size + 1) hz (by omega)
  have e3 := ht.block bd h3 (by omega)
  refine ⟨⟨h.b2.g.at5 e1, ⟨(World.cell?_of_block (a := ⟨w.heap.size + 1, 0, none⟩) e2).trans h.b2.f.c0, (World.cell?_of_block (a := ⟨w.heap.size + 1, 1, none⟩) e2).trans h.b2.f.c1⟩, h.b2.bel.setCell (by show _ ≤ gd; omega) _, by simpa using hz⟩, by rw [List.length_set]; exact (World.cell?_of_block (a := ⟨bd, 0, none⟩) e3).trans h.d0, by rw [List.length_set]; exact (h.dd.store (j := j) x).1, h1, h2, by simpa using h3⟩

set_option maxRecDepth 100000 in
set_option maxHeartbeats 4000000 in
theorem pDists_main (side fx fy : Int) (A : Option Addr) (c : Nat) (l : List Int) (d0 : List Int) (w : World) (h : RI w w.heap.size A l) (hr : gridRight side l = true) (ho : opn side l fx fy = true) (hd : GDist side l fx fy d0) :
    Calls Try.prog 9 #[.agg #[.int .i64 side, .slice A l.length c], .agg #[.int .i64 fx, .int .i64 fy]] w fun e w' => NOut w w' d0 e := by
  have HD := Lib.hid hd
  have HR := Lib.hid hr
  have HO := Lib.hid ho
  have H := Lib.hid h
  have hl64 := right_len hr
  have HL64 := Lib.hid hl64
  have hgin := (opn_parts hr ho).1
  have hN := fun w => pNum5_any (side := side) (x := fx) (y := fy) (l := l) hr hgin w
  have hplI : ((pn side fx fy : Nat) : Int) < (l.length : Int) := by have := (pn_lt hr hgin).1; omega
  have HPL := Lib.hid (pn_lt hr hgin).1
  have hs8 := side_bound (right_parts hr).1
  obtain ⟨hx0, hx1, hy0, hy1⟩ := gridIn_iff.1 hgin
  have hOp := fun w h => pOpen5_any side fx fy A c l w h (by omega) ⟨by omega, by omega⟩ ⟨by omega, by omega⟩
  rw [hr, ho, Bool.and_self] at hOp
  have hlq : (l.length : Int) = 1 ∨ (l.length : Int) = 4 ∨ (l.length : Int) = 16 ∨ (l.length : Int) = 64 := by
    obtain ⟨hs, hl, _⟩ := right_parts hr
    rcases (sideOk_iff side).1 hs with rfl | rfl | rfl | rfl <;> omega
  have HLQ := Lib.hid hlq
  have HB := Lib.hid (B2.made w side A c l fx fy)
  clear h hr ho hd hgin hx0 hx1 hy0 hy1 hl64 hlq
  refine (callsIn_wide (n := 9)).1 ?_
  refine callsIn_of_wp_marks Try.func9 rfl trivial ?_ rfl
  simp only [Try.ntmps9, List.size_toArray, List.length_cons, List.length_nil, Nat.reduceAdd, Nat.reduceSub, Array.replicate_succ, Array.replicate_zero, List.push_toArray, List.append_toArray, List.nil_append, List.cons_append]
  refine wpIn_wide.2 ?_
  go_wp2_with fail
  refine (hOp _ ((H.out.below HB.out.bel).mono HB.out.bel.size)).mono ?_
  rintro e w1 ⟨rfl, hb1⟩
  have HB1 := Lib.hid (HB.out.below hb1)
  clear hb1 HB hOp
  obtain ⟨g0, g1, _, _⟩ := HB1.out.g
  obtain ⟨f0, f1⟩ := HB1.out.f
  have hz1 := HB1.out.siz
  have hz1a : w.heap.size < w1.heap.size := by omega
  go_wp2_with fail
  have HBa := Lib.hid (HB1.out.below (bel_A w1 (.cells #[.int .i64 (-1)] 2)))
  refine (pRepeat_any l.length (-1) w1.heap.size _ HLQ.out (by simp [go_sem])).mono ?_
  rintro e w2 ⟨rfl, ho2, hb2⟩
  have HB2 := Lib.hid (HBa.out.below hb2)
  have HO2 := Lib.hid ho2
  clear hb2 ho2 HBa HB1 g0 g1 f0 f1
  obtain ⟨g0, g1, _, _⟩ := HB2.out.g
  obtain ⟨f0, f1⟩ := HB2.out.f
  have hz2 := HB2.out.siz
  have hz2a : w.heap.size < w2.heap.size := by omega
  go_upto_region 4 with fail
  have HV3 : Hid (DV w side A c l fx fy (w1.heap.size + 1) w2.heap.size (List.replicate l.length (-1)) (w2.alloc (.cells #[.slice (some ⟨w1.heap.size + 1, 0, none⟩) l.length l.length] 23))) := by
    have hlt := (World.ownsRow.lt HO2.out (w1.heap.size + 1) (by simp [Value.ownBlock])).2
    refine ⟨HB2.out.below (bel_A _ _), by rw [List.length_replicate]; simp [go_sem], ?_, by omega, by simpa using hlt, by simp⟩
    have := (OwnI.lower (base' := w.heap.size) (by simp; omega) HO2.out).keep (bel_A w2 (.cells #[.slice (some ⟨w1.heap.size + 1, 0, none⟩) l.length l.length] 23))
    rw [List.length_replicate]
    simpa using this
  generalize w2.alloc (.cells #[.slice (some ⟨w1.heap.size + 1, 0, none⟩) l.length l.length] 23) = w3 at HV3 ⊢
  generalize w2.heap.size = bd at HV3 ⊢
  generalize w1.heap.size + 1 = gd at HV3 ⊢
  clear HB2 HO2 g0 g1 f0 f1 hz2 hz2a hz1 hz1a
  have HS : Hid (∀ w', DV w side A c l fx fy gd bd (List.replicate l.length (-1)) w' → w'.cell? ⟨w.heap.size, 0, none⟩ = some (.int .i64 side) ∧ w'.cell? ⟨w.heap.size + 1, 0, none⟩ = some (.int .i64 fx) ∧ w'.cell? ⟨w.heap.size + 1, 1, none⟩ = some (.int .i64 fy) ∧ w'.cell? ⟨bd, 0, none⟩ = some (.slice (some ⟨gd, 0, none⟩) l.length l.length)) := by
    intro w' hv
    have hd0 := hv.d0
    rw [List.length_replicate] at hd0
    exact ⟨hv.b2.g.c0, hv.b2.f.c0, hv.b2.f.c1, hd0⟩
  have hn1 := HV3.out.nd.1
  have hn2 := HV3.out.nd.2.1
  have q0 := HV3.out.below (bel_D _)
  have hkeep := HS.out _ q0
  go_region_held3 (fun w' => w'.cell? ⟨w.heap.size, 0, none⟩ = some (.int .i64 side) ∧ w'.cell? ⟨w.heap.size + 1, 0, none⟩ = some (.int .i64 fx) ∧ w'.cell? ⟨w.heap.size + 1, 1, none⟩ = some (.int .i64 fy) ∧ w'.cell? ⟨bd, 0, none⟩ = some (.slice (some ⟨gd, 0, none⟩) l.length l.length))
    (first
      | (with_reducible exact hkeep)
      | (have q2 := q1.store (pn side fx fy) 0; have q2d := q2.d0; rw [List.length_set, List.length_replicate] at q2d; with_reducible exact ⟨q2.b2.g.c0, q2.b2.f.c0, q2.b2.f.c1, q2d⟩)
      | go_keep)
    (first | (go_at_call 39; refine (hN _).mono ?_; rintro e v1 ⟨rfl, hb⟩; have q1 := q0.below hb; clear hkeep; have hkeep := HS.out _ q1; obtain ⟨_, e5, _, _, hcs, hfs⟩ := q1.dd.at_ (j := pn side fx fy) (by rw [List.length_replicate]; exact HPL.out); cases e5; clear hb))
  all_goals
    have HV4 := Lib.hid (q1.store (pn side fx fy) 0)
    clear hkeep q0 q1 hcs hfs
    generalize v1.setCell ⟨gd, pn side fx fy, none⟩ (.int .i64 0) = w4 at HV4 ⊢
    obtain ⟨f0, f1⟩ := HV4.out.b2.f
    have hz4 := HV4.out.b2.siz
    clear HS HV3
    have HVa := Lib.hid (HV4.out.below (bel_A w4 (.cells #[.slice none 0 0] 66)))
    have hzw : w.heap.size ≤ w4.heap.size := by omega
    go_wp2_with fail
    refine (pQPut_first (base := w.heap.size) fx fy (by simp [go_sem]) (by simp [go_sem]) hzw).mono ?_
    rintro e w5 ⟨rfl, b0, off0, cap0, hq5, hlt5, ht5⟩
    have HP5 : Hid (PS5 w.heap.size side A c l w.heap.size bd w4.heap.size gd l.length ((List.replicate l.length (-1)).set (pn side fx fy) 0) b0 off0 cap0 [⟨fx, fy⟩] w5 ∧ Below w.heap.size w w5 ∧ w4.heap.size < w5.heap.size) := by
      obtain ⟨h1, h2, h3⟩ := HV4.out.nd
      have h4 := HVa.out
      have e : ∀ k, k < w4.heap.size → w5.heap[k]? = (w4.alloc (.cells #[.slice none 0 0] 66)).heap[k]? := fun k hk => ht5.block k (by simp; omega) (by omega)
      have hg := World.ownsRow.lt HV4.out.dd gd rfl
      have hs5 := ht5.size
      rw [alloc_size] at hs5 hlt5
      refine ⟨⟨h4.b2.g.at5 (e _ (by omega)), (World.cell?_of_block (a := ⟨bd, 0, none⟩) (e bd (by omega))).trans h4.d0, ownI_block h4.dd (e gd (by omega)), hq5, ⟨by omega, by omega⟩, ⟨by omega, by omega, by omega⟩, by omega, by omega, by omega⟩, h4.b2.bel.trans (ht5.below (fun k hk => by omega) (by simp; omega)), by omega⟩
    have HM5 : Hid (DM side l (pn side fx fy) (pn side fx fy) (fun _ => True) ((List.replicate l.length (-1)).set (pn side fx fy) 0) [⟨fx, fy⟩]) := ⟨OnW.start (gr_grid HR.out) HPL.out, by intro p hp; simp at hp; subst hp; exact HO.out⟩
    clear hq5 hlt5 ht5 HVa HV4 f0 f1 hn1 hn2
    generalize (List.replicate l.length (-1)).set (pn side fx fy) 0 = dA at HP5 HM5
    generalize hbo : w4.heap.size = bo at HP5 ⊢
    clear hbo hz4 hzw
    go_wp2_with fail
    refine wp_loop_ghost_k (fun K a wr => ∃ (y0 y1 y3 y4 y7 y8 y9 y10 y11 y12 y13 y14 y15 y16 y17 y18 y19 y20 y21 y22 y23 y24 y25 y26 y27 y28 y29 y30 y31 y32 y33 y34 y35 y36 y37 y38 y39 y40 y41 y42 y43 y44 y45 y46 y47 y48 y49 y50 y51 y52 y53 y54 y55 y56 y57 y58 y59 y60 y61 y62 y63 y64 y65 y66 y67 y68 y69 : Value) (ds : List Deferred), (∃ (d : List Int) (b off cap : Nat) (q : List Pl) (a5 : Nat) (done : Nat → Prop), PS5 w.heap.size side A c l w.heap.size bd bo gd l.length d b off cap q wr ∧ Hid (DM side l (pn side fx fy) a5 done d q ∧ (∀ j, Stp side l a5 j → done j) ∧ lft side l d q ≤ K) ∧ Hid (Mks w.heap.size ds wr) ∧ Hid (Below w.heap.size w wr)) ∧ a = { tmps := #[y0, y1, .pointer (some ⟨w.heap.size, 0, none⟩), y3, y4, .pointer (some ⟨bd, 0, none⟩), .pointer (some ⟨bo, 0, none⟩), y7, y8, y9, y10, y11, y12, y13, y14, y15, y16, y17, y18, y19, y20, y21, y22, y23, y24, y25, y26, y27, y28, y29, y30, y31, y32, y33, y34, y35, y36, y37, y38, y39, y40, y41, y42, y43, y44, y45, y46, y47, y48, y49, y50, y51, y52, y53, y54, y55, y56, y57, y58, y59, y60, y61, y62, y63, y64, y65, y66, y67, y68, y69], defers := ds }) (lft side l dA [⟨fx, fy⟩]) ?_ ?_
    · (repeat apply Exists.intro)
      refine ⟨?_, rfl⟩
      exact ⟨dA, b0, off0, cap0, [⟨fx, fy⟩], _, _, HP5.out.1, ⟨HM5.out, fun _ _ => trivial, Nat.le_refl _⟩, Mks.nil _ _, HP5.out.2.1⟩
    · intro gk _ wr hinv
      obtain ⟨y0, y1, y3, y4, y7, y8, y9, y10, y11, y12, y13, y14, y15, y16, y17, y18, y19, y20, y21, y22, y23, y24, y25, y26, y27, y28, y29, y30, y31, y32, y33, y34, y35, y36, y37, y38, y39, y40, y41, y42, y43, y44, y45, y46, y47, y48, y49, y50, y51, y52, y53, y54, y55, y56, y57, y58, y59, y60, y61, y62, y63, y64, y65, y66, y67, y68, y69, ds, hinv⟩ := hinv
      obtain ⟨hrel, ha⟩ := hinv
      subst ha
      intro _ _ _ _
      obtain ⟨d, b, off, cap, q, a5, done, hps, HMM, HMK, HBL⟩ := hrel
      have HS := Lib.hid hps
      have hc0 := hps.qb.c0
      clear hps HP5 HM5
      go_wp2_with fail
      refine (pQEmpty_any hc0).mono ?_
      rintro e w6 ⟨rfl, rfl⟩
      cases q with
      | nil =>
        have HE : Hid (d = d0) := IsD.one (gr_grid HR.out) (HMM.out.1.on.done HMM.out.2.1) HD.out
        have hd0 := HS.out.d0
        clear hc0
        go_wp2_with fail
        refine Mks.leaves ds wr HMK.out fun w' ht => ?_
        refine ⟨_, results_tmp rfl _ _ _, ?_⟩
        have e1 := HE.out
        subst e1
        exact ⟨_, _, rfl, ownI_block HS.out.dd (ht.cells HS.out.cr), HBL.out.trans (ht.below (fun k e => e.1) HBL.out.size)⟩
      | cons p q =>
        obtain ⟨px, py⟩ := p
        have HOP : Hid (opn side l px py = true) := HMM.out.1.opn ⟨px, py⟩ (by simp)
        have HM0 : Hid (DM side l (pn side fx fy) (pn side px py) (fun _ => False) d q ∧ lft side l d q < gk) := by
          obtain ⟨hm, hdn, hle2⟩ := HMM.out
          have hon := hm.on
          simp only [List.map_cons] at hon
          obtain ⟨h1, h2⟩ := hon.next hdn
          exact ⟨⟨h1, fun p hp => hm.opn p (by simp [hp])⟩, by unfold lft at hle2 ⊢; simp only [List.map_cons] at hle2; omega⟩
        have htk := pQTake_any HS.out.qb HBL.out.size
        have hne0 : ((((q.length + 1 : Nat) : Int)) == 0) = false := by rw [beq_eq_false_iff_ne]; omega
        clear hc0 HMM
        simp only [List.length_cons, hne0]
        go_wp2_with fail
        refine htk.mono ?_
        rintro e w7 ⟨rfl, off2, cap2, hq7, ht7⟩
        have HS7 := Lib.hid (HS.out.queue hq7 (ht7.mono fun k e => .inl e) (.inl rfl))
        have HBL7 := Lib.hid (HBL.out.trans (ht7.below (fun k e => by subst e; exact HS.out.qb.lo) HBL.out.size))
        have HMK7 := Lib.hid (HMK.out.others (ht7.others fun k e _ => by subst e; exact HS.out.co))
        clear hq7 ht7 htk HS HBL HMK hne0
        have HP8 := Lib.hid (PlB.made w7 px py 27)
        have HS8 := Lib.hid (HS7.out.below (bel_A w7 (.cells #[.int .i64 px, .int .i64 py] 27)))
        have HBL8 := Lib.hid (HBL7.out.trans ((bel_A w7 (.cells #[.int .i64 px, .int .i64 py] 27)).mono HBL7.out.size))
        obtain ⟨g0, g1, _, _⟩ := HS7.out.g
        have hbg := World.block_lt_of_cell? w7 _ g0
        simp only at hbg
        go_wp2_with fail
        refine (pStepsFrom_any side px py A c l _ ((H.out.below HBL8.out).mono HBL8.out.size) HR.out HOP.out).mono ?_
        rintro e w9 ⟨bb, bg, bh, rfl, hsb, ⟨z1, z2⟩, ⟨z3, z4⟩, ⟨z5, z6⟩, hb9⟩
        have HS9 := Lib.hid (HS8.out.below hb9)
        have HBL9 := Lib.hid (HBL8.out.trans (hb9.mono HBL8.out.size))
        have HMK9 : Hid (Mks w.heap.size ds w9) := HMK7.out.others ((KeepsOthers.alloc w7 _).trans ((Trn.of_below (p := fun _ => False) hb9).others fun _ e => e.elim))
        have HP9 := Lib.hid (HP8.out.below hb9 (by simp))
        have hb8z : w7.heap.size + 1 ≤ w9.heap.size := by have := hb9.size; simpa using this
        have hz7 := HBL7.out.size
        have lt7 : ∀ {k : Nat}, (∃ x : Obj, w7.heap[k]? = some x ∧ x.isCells = true) → k < w7.heap.size := fun ⟨x, hx, _⟩ => (Array.getElem?_eq_some_iff.1 hx).1
        have l1 := lt7 HS7.out.cr
        have l2 := lt7 HS7.out.co
        have l3 := lt7 HS7.out.qb.cl
        have l4 := (World.ownsRow.lt HS7.out.dd gd rfl).1
        have l5 := HS7.out.qb.lo
        have l6 := HS7.out.qb.q.lo
        rcases H.out with e0 | ⟨bt, offt, eA, hbt, hct⟩
        · have := HPL.out; rw [e0] at this; simp at this
        subst eA
        simp only [alloc_size] at z1 z3 z5
        have HNX : Hid (¬ (bb = gd ∨ bb = bo ∨ bb = b) ∧ ¬ (bg = gd ∨ bg = bo ∨ bg = b) ∧ ¬ (bh = gd ∨ bh = bo ∨ bh = b) ∧ ¬ (bt = gd ∨ bt = bo ∨ bt = b)) := by refine ⟨?_, ?_, ?_, ?_⟩ <;> omega
        have HIT : Hid (IT5 w9.heap.size bb bg bh bt offt side c l px py w9 w9) := ⟨hsb, fun j hj => (HBL9.out.cell (p := ⟨bt, offt + j, none⟩) hbt).trans (hct j hj), ⟨z2, z4, z6, by omega⟩, Nat.le_refl _, Nat.le_refl _⟩
        have HPI0 : Hid (PIn w w9 side (some ⟨bt, offt, none⟩) c l w.heap.size bd bo gd l.length b (pn side fx fy) (pn side px py) gk px py [] w9) := ⟨d, b, off2, cap2, q, HS9.out, .inl rfl, Trn.refl _ _, by have := HM0.out.1; simpa using this, HM0.out.2⟩
        have HLT : Hid (gd < w9.heap.size ∧ bo < w9.heap.size ∧ b < w9.heap.size ∧ w7.heap.size < w9.heap.size ∧ gd < w7.heap.size ∧ bo < w7.heap.size ∧ b < w7.heap.size) := by refine ⟨?_, ?_, ?_, ?_, ?_, ?_, ?_⟩ <;> omega
        have HLO : Hid (w.heap.size ≤ gd ∧ w.heap.size ≤ bo ∧ w.heap.size ≤ b) := ⟨l4, l5, l6⟩
        clear hsb z1 z2 z3 z4 z5 z6 hb9 l1 l2 l3 l4 l5 l6 lt7 hz7 hb8z g0 g1 hbg HS8 HBL8 HP8 HS7 HBL7 HMK7 HM0 hct hbt
        generalize hbp : w7.heap.size = bp at HP9 HLT ⊢
        clear hbp
        go_wp2_with fail
        refine (wpIn_wide (n := 9)).1 ?_
        refine wpIn_rangeFunc_ownH (F := Fence.wide) (n := 9) rfl (by omega) (gf := 67) (lb := #[.pointer (some ⟨bb, 0, none⟩), .pointer (some ⟨bg, 0, none⟩), .pointer (some ⟨bh, 0, none⟩)]) rfl trivial (enters_of Try.func67 (by kernel_rfl) rfl)
          (pSteps_stops 8 (by omega) w9.heap.size (fun k => k = gd ∨ k = bo ∨ k = b) bb bg bh bt offt side c l px py w9 HR.out HOP.out HNX.out HIT.out) kpE_t (kpE_b (Nat.le_refl _)) (Below.refl _ _) (fun _ => rfl)
          (PIn w w9 side (some ⟨bt, offt, none⟩) c l w.heap.size bd bo gd l.length b (pn side fx fy) (pn side px py) gk px py) (fun _ _ _ => False) PIn.own (fun _ _ _ _ _ hs _ _ => hs) HPI0.out
          (fun x a' W => ∃ Bx, w9.heap.size ≤ Bx ∧ PlB W Bx x.1.x x.1.y ∧ a' = { tmps := #[y0, y1, .pointer (some ⟨w.heap.size, 0, none⟩), y3, y4, .pointer (some ⟨bd, 0, none⟩), .pointer (some ⟨bo, 0, none⟩), .pointer (some ⟨bp, 0, none⟩), .pointer (some ⟨Bx, 0, none⟩), .int .i64 (cst l (pn side px py) (pn side x.1.x x.1.y)), y10, y11, y12, y13, y14, y15, y16, y17, y18, y19, y20, y21, y22, y23, y24, y25, y26, y27, y28, .bool false, .bool true, .agg #[.int .i64 px, .int .i64 py], .agg #[.int .i64 side, .slice (some ⟨bt, offt, none⟩) l.length c], .agg #[.int .i64 px, .int .i64 py], .func (.func 67) #[] #[.pointer (some ⟨bb, 0, none⟩), .pointer (some ⟨bg, 0, none⟩), .pointer (some ⟨bh, 0, none⟩)], .agg #[.int .i64 x.1.x, .int .i64 x.1.y], .int .i64 (cst l (pn side px py) (pn side x.1.x x.1.y)), y37, y38, y39, y40, y41, y42, y43, y44, y45, y46, y47, y48, y49, y50, y51, y52, y53, y54, y55, y56, y57, y58, y59, y60, y61, y62, y63, y64, y65, y66, y67, y68, y69], defers := [] })
          ?hAx ?assign ?body ?done ?stop
        case hAx =>
          rintro x a' _ W W' row ⟨Bx, h1, h2, h3⟩ hg hr
          have e1 := keepc hg (fun r e => (hr r e).2) (cells_of_cell h2.c0)
          exact ⟨Bx, h1, ⟨(World.cell?_of_block (a := ⟨Bx, 0, none⟩) e1).trans h2.c0, (World.cell?_of_block (a := ⟨Bx, 1, none⟩) e1).trans h2.c1⟩, h3⟩
        case assign =>
          intro l' pre x W K hi hK
          gi_wp2
          refine hK _ _ ((KeepsOthers.alloc _ _).from _) ((KpE.of_trn (p := fun _ => False) (Trn.of_below (bel_A _ _)) fun _ e => e.elim)) (hi.below (bel_A _ _)) ⟨W.heap.size, ?_, PlB.made W x.1.x x.1.y 27, rfl⟩
          obtain ⟨d', b', off', cap', q', hpi⟩ := hi
          exact hpi.tr.size
        case body =>
          rintro L pre x a' W hL hrec ⟨d', b', off', cap', q', hpi⟩ ⟨Bx, hBx, hpb, rfl⟩ hlen
          obtain ⟨⟨ux, uy⟩, hxx⟩ := x
          have hou := hxx.1
          have hmu := hxx.2
          dsimp only at hpb hou hmu ⊢
          have HPI := Lib.hid hpi
          have HST : Hid (Stp side l (pn side px py) (pn side ux uy)) := ⟨px, py, ux, uy, HOP.out, hou, hmu, rfl, rfl⟩
          have HNE : Hid (pn side px py ≠ pn side ux uy) := abt_ne HR.out HOP.out hou hmu
          have hgp := (opn_parts HR.out HOP.out).1
          have hgu := (opn_parts HR.out hou).1
          have hNp := fun w => pNum5_any (side := side) (x := px) (y := py) (l := l) HR.out hgp w
          have hNu := fun w => pNum5_any (side := side) (x := ux) (y := uy) (l := l) HR.out hgu w
          have hdl : d'.length = l.length := hpi.dm.on.len
          have hlp := (pn_lt HR.out hgp).1
          have hlu := (pn_lt HR.out hgu).1
          have hlpI : ((pn side px py : Nat) : Int) < (d'.length : Int) := by omega
          have hluI : ((pn side ux uy : Nat) : Int) < (d'.length : Int) := by omega
          have HCD : Hid (∀ V b off cap q, PS5 w.heap.size side (some ⟨bt, offt, none⟩) c l w.heap.size bd bo gd l.length d' b off cap q V → V.cell? ⟨gd, pn side px py, none⟩ = some (.int .i64 (dk d' (pn side px py))) ∧ V.cell? ⟨gd, pn side ux uy, none⟩ = some (.int .i64 (dk d' (pn side ux uy))) ∧ V.frozen? ⟨gd, pn side ux uy, none⟩ = false) := by
            intro V b off cap q hh
            obtain ⟨g1, q1, _, _, hc1, _⟩ := hh.dd.at_ (j := pn side px py) (by omega)
            cases q1
            obtain ⟨g2, q2, _, _, hc2, hf2⟩ := hh.dd.at_ (j := pn side ux uy) (by omega)
            cases q2
            rw [dk_lt (by omega), dk_lt (by omega)]
            exact ⟨hc1, hc2, hf2⟩
          have hxa0 := hpi.dm.on.at_.2
          have hxa1 := hpi.dm.on.bound (pn side px py)
          have hxu := hpi.dm.on.lab _ hlu
          have hcl := (gr_grid HR.out).low _ _ HST.out
          have hch := (gr_grid HR.out).high _ _ HST.out
          have HMG := Lib.hid (fun hlt => hpi.dm.go HR.out hou HST.out HNE.out hlt)
          have HMK := Lib.hid (fun hb hle => hpi.dm.skip (b := pn side ux uy) hb hle)
          have HQL := Lib.hid (hpi.dm.len HL64.out)
          have hl64 := HL64.out
          have HXU : Hid (dk d' (pn side ux uy) = -1 ∨ 0 ≤ dk d' (pn side ux uy)) := hxu.imp id And.left
          clear hxu
          generalize dk d' (pn side px py) = xa at *
          generalize dk d' (pn side ux uy) = xu at *
          generalize cst l (pn side px py) (pn side ux uy) = cc at *
          have hwr : IntKind.i64.wrap (xa + cc) = xa + cc := IntWalk.i64_in _ (by omega)
          have HBX := Lib.hid hBx
          have HPB := Lib.hid hpb
          have HPW : Hid (PlB W bp px py) := by
            obtain ⟨h1, h2, h3, h4, h5, h6, h7⟩ := HLT.out
            have e := hpi.tr.block bp h4 (by omega)
            exact ⟨(World.cell?_of_block (a := ⟨bp, 0, none⟩) e).trans HP9.out.c0, (World.cell?_of_block (a := ⟨bp, 1, none⟩) e).trans HP9.out.c1⟩
          obtain ⟨k1, k2, _⟩ := HCD.out _ _ _ _ _ hpi.ps
          have k3 := hpi.ps.g.c0
          have k4 := hpi.ps.d0
          obtain ⟨k5, k6⟩ := HPW.out
          have hmx : Try.prog.follows .mixedOrders = true := by kernel_rfl
          clear hpi hBx hpb hgp hgu hlp hlu hou hmu HPI0 hxa0 hxa1 hcl hch hdl hl64
          have HKV : Hid (∀ V, Below W.heap.size W V → V.cell? ⟨bd, 0, none⟩ = some (.slice (some ⟨gd, 0, none⟩) d'.length l.length) ∧ V.cell? ⟨w.heap.size, 0, none⟩ = some (.int .i64 side) ∧ V.cell? ⟨bp, 0, none⟩ = some (.int .i64 px) ∧ V.cell? ⟨bp, 1, none⟩ = some (.int .i64 py) ∧ V.cell? ⟨gd, pn side px py, none⟩ = some (.int .i64 xa) ∧ PI w w9 side (some ⟨bt, offt, none⟩) c l w.heap.size bd bo gd l.length b (pn side fx fy) (pn side px py) gk (fun j => ∃ x ∈ pre, j = pn side x.1.x x.1.y) V d' b' off' cap' q' ∧ PlB V Bx ux uy ∧ W.heap.size ≤ V.heap.size) := by
            intro V hb
            have h1 := HPI.out.keep (p := fun _ => False) (Trn.of_below hb) (fun _ _ => id) (fun _ => False.elim)
            have hp := HPW.out.below hb (World.block_lt_of_cell? W _ HPW.out.c0)
            exact ⟨h1.ps.d0, h1.ps.g.c0, hp.c0, hp.c1, (HCD.out _ _ _ _ _ h1.ps).1, h1, HPB.out.below hb (World.block_lt_of_cell? W _ HPB.out.c0), hb.size⟩
          gi_upto_region 12 with fail
          obtain ⟨m1, m2, m3, m4, m5, m6, m7, m8⟩ := HKV.out _ (bel_D W)
          have hkeep := And.intro m1 (And.intro m2 (And.intro m3 (And.intro m4 m5)))
          clear k1 k2 k3 k4 k5 k6 m1 m2 m3 m4 m5 m6 m7 m8
          refine wpIn_region_heldR (S := (fun w' => w'.cell? ⟨bd, 0, none⟩ = some (.slice (some ⟨gd, 0, none⟩) d'.length l.length) ∧ w'.cell? ⟨w.heap.size, 0, none⟩ = some (.int .i64 side) ∧ w'.cell? ⟨bp, 0, none⟩ = some (.int .i64 px) ∧ w'.cell? ⟨bp, 1, none⟩ = some (.int .i64 py) ∧ w'.cell? ⟨gd, pn side px py, none⟩ = some (.int .i64 xa))) (by kernel_rfl) (by kernel_rfl) (fun _ _ h => h) hkeep (fun hHeld => ?_)
          refine wpAnyH_take (i := 0) (v := ?_) rfl (by kernel_rfl) (by kernel_rfl) (by kernel_rfl) (fun _ _ _ h => h) (Or.inl ⟨by rfl, ?_⟩) (by assumption) ?_
          rotate_left 1
          · (intro w' hSw; (try dsimp only at hSw); go_simp <;> with_reducible rfl)
          simp only [Act.put, List.getElem_toArray, List.getElem_cons_succ, List.getElem_cons_zero, List.setIfInBounds_toArray, List.set_cons_zero, List.set_cons_succ]
          refine wpAnyH_take (i := 1) (v := ?_) rfl (by kernel_rfl) (by kernel_rfl) (by kernel_rfl) (fun _ _ _ h => h) (Or.inl ⟨by rfl, ?_⟩) (by assumption) ?_
          rotate_left 1
          · (intro w' hSw; (try dsimp only at hSw); go_simp <;> with_reducible rfl)
          simp only [Act.put, List.getElem_toArray, List.getElem_cons_succ, List.getElem_cons_zero, List.setIfInBounds_toArray, List.set_cons_zero, List.set_cons_succ]
          refine wpAnyH_take (i := 2) (v := ?_) rfl (by kernel_rfl) (by kernel_rfl) (by kernel_rfl) (fun _ _ _ h => h) (Or.inl ⟨by rfl, ?_⟩) (by assumption) ?_
          rotate_left 1
          · (intro w' hSw; (try dsimp only at hSw); go_simp <;> with_reducible rfl)
          simp only [Act.put, List.getElem_toArray, List.getElem_cons_succ, List.getElem_cons_zero, List.setIfInBounds_toArray, List.set_cons_zero, List.set_cons_succ]
          refine wpAnyH_take (i := 3) (v := ?_) rfl (by kernel_rfl) (by kernel_rfl) (by kernel_rfl) (fun _ _ _ h => h) (Or.inl ⟨by rfl, ?_⟩) (by assumption) ?_
          rotate_left 1
          · (intro w' hSw; (try dsimp only at hSw); go_simp <;> with_reducible rfl)
          simp only [Act.put, List.getElem_toArray, List.getElem_cons_succ, List.getElem_cons_zero, List.setIfInBounds_toArray, List.set_cons_zero, List.set_cons_succ]
          refine wpAnyH_take (i := 7) (v := ?_) rfl (by kernel_rfl) (by kernel_rfl) (by kernel_rfl) (fun _ _ _ h => h) (Or.inl ⟨by rfl, ?_⟩) (by assumption) ?_
          rotate_left 1
          · (intro w' hSw; (try dsimp only at hSw); go_simp <;> with_reducible rfl)
          simp only [Act.put, List.getElem_toArray, List.getElem_cons_succ, List.getElem_cons_zero, List.setIfInBounds_toArray, List.set_cons_zero, List.set_cons_succ]
          refine wpAnyH_ready (rs := [4]) (by kernel_rfl) (by simp) ?_
          refine (AllReadyH.cons rfl (fun K hK => ?_) AllReadyH.nil)
          go_simp
          (go_at_call 39; refine (hNp _).mono ?_; rintro e vW ⟨rfl, hb⟩; have hbv := bel_T (bel_D _) hb; obtain ⟨m1, m2, m3, m4, m5, m6, m7, m8⟩ := HKV.out vW hbv; clear hkeep; have hkeep := And.intro m1 (And.intro m2 (And.intro m3 (And.intro m4 m5))); clear hb)
          try go_wp2_with fail
          refine hK.out _ _ ?_ (fun hHeld => ?_)
          · exact hkeep
          clear hK K
          try simp only [Act.put, List.getElem_toArray, List.getElem_cons_succ, List.getElem_cons_zero, List.setIfInBounds_toArray, List.set_cons_zero, List.set_cons_succ]
          refine wpAnyH_take (i := 5) (v := ?_) rfl (by kernel_rfl) (by kernel_rfl) (by kernel_rfl) (fun _ _ _ h => h) (Or.inl ⟨by rfl, ?_⟩) (by assumption) ?_
          rotate_left 1
          · (intro w' hSw; (try dsimp only at hSw); go_simp <;> with_reducible rfl)
          simp only [Act.put, List.getElem_toArray, List.getElem_cons_succ, List.getElem_cons_zero, List.setIfInBounds_toArray, List.set_cons_zero, List.set_cons_succ]
          refine wpAnyH_take (i := 6) (v := ?_) rfl (by kernel_rfl) (by kernel_rfl) (by kernel_rfl) (fun _ _ _ h => h) (Or.inl ⟨by rfl, ?_⟩) (by assumption) ?_
          rotate_left 1
          · (intro w' hSw; (try dsimp only at hSw); go_simp <;> with_reducible rfl)
          simp only [Act.put, List.getElem_toArray, List.getElem_cons_succ, List.getElem_cons_zero, List.setIfInBounds_toArray, List.set_cons_zero, List.set_cons_succ]
          refine wpAnyH_take (i := 8) (v := ?_) rfl (by kernel_rfl) (by kernel_rfl) (by kernel_rfl) (fun _ _ _ h => h) (Or.inl ⟨by rfl, ?_⟩) (by assumption) ?_
          rotate_left 1
          · (intro w' hSw; (try dsimp only at hSw); go_simp <;> with_reducible rfl)
          simp only [Act.put, List.getElem_toArray, List.getElem_cons_succ, List.getElem_cons_zero, List.setIfInBounds_toArray, List.set_cons_zero, List.set_cons_succ]
          refine wpAnyH_take (i := 9) (v := ?_) rfl (by kernel_rfl) (by kernel_rfl) (by kernel_rfl) (fun _ _ _ h => h) (Or.inl ⟨by rfl, ?_⟩) (by assumption) ?_
          rotate_left 1
          · (intro w' hSw; (try dsimp only at hSw); go_simp <;> with_reducible rfl)
          simp only [Act.put, List.getElem_toArray, List.getElem_cons_succ, List.getElem_cons_zero, List.setIfInBounds_toArray, List.set_cons_zero, List.set_cons_succ]
          refine wpAnyH_done (by kernel_rfl) ?_ _
          refine NoPanic.normal ?_
          have HBV := Lib.hid hbv
          have M6 := Lib.hid m6
          have M7 := Lib.hid m7
          clear hkeep hbv m1 m3 m4 m5 m6 m7 m8 HKV HPI HPB HPW
          obtain ⟨p0, p1⟩ := M7.out
          gi_wp2_with fail
          refine ⟨trivial, (CallsIn.inRound L (callsIn_wide.2 (hNu _))).mono ?_⟩
          rintro e vX ⟨rfl, hbx⟩
          have M8 := Lib.hid (M6.out.keep (p := fun _ => False) (Trn.of_below hbx) (fun _ _ => id) (fun _ => False.elim))
          have HPX := Lib.hid (M7.out.below hbx (World.block_lt_of_cell? vW _ M7.out.c0))
          have HBX2 := Lib.hid (bel_T HBV.out hbx)
          obtain ⟨c1, c2, cf⟩ := HCD.out _ _ _ _ _ M8.out.ps
          have c3 := M8.out.ps.d0
          obtain ⟨c4, c5⟩ := HPX.out
          have hgx : ¬ Bx = gd := by have h1 := HBX.out; have h2 := HLT.out.1; omega
          have hgx2 : ¬ gd = Bx := by have h1 := HBX.out; have h2 := HLT.out.1; omega
          have hgbd : ¬ bd = gd := M8.out.ps.n3.1
          clear m2 p0 p1 hbx M6 M7 HBV c1
          have HFIN : Hid (∀ vP b2 off2 cap2, QB vP w.heap.size bo b2 off2 cap2 (q' ++ [⟨ux, uy⟩]) → (b2 = b' ∨ vX.heap.size ≤ b2) → Trn (fun k => k = bo ∨ k = b') (vX.setCell ⟨gd, pn side ux uy, none⟩ (.int .i64 (xa + cc))) vP → (xu < 0 ∨ xa + cc < xu) → ownPostG w9.heap.size (KpE w9.heap.size (fun k => k = gd ∨ k = bo ∨ k = b)) (PIn w w9 side (some ⟨bt, offt, none⟩) c l w.heap.size bd bo gd l.length b (pn side fx fy) (pn side px py) gk px py) (fun _ _ _ => False) (pre ++ [⟨⟨ux, uy⟩, hxx⟩]) W .normal { tmps := #[], defers := [] } vP) := by
            intro vP b2 off2 cap2 hq2 hl2 ht2 hlt
            have hps := M8.out.ps.store (pn side ux uy) (xa + cc)
            have hps2 := hps.queue hq2 ht2 (by simpa using hl2)
            have hz := HBX2.out.size
            have hz9 := M8.out.tr.size
            have htW : Trn (fun k => k = gd ∨ k = bo ∨ k = b') W vP := ((Trn.of_below HBX2.out).trans (Trn.set vX gd (pn side ux uy) (.int .i64 (xa + cc))) fun k _ e => .inl e).trans ht2 fun k _ e => .inr e
            have hko : KeepsOthers W vP := (((Trn.of_below (p := fun _ => False) HBX2.out).others fun _ e => e.elim).trans (KeepsOthers.setCell _ _ _)).trans (ht2.others fun k e _ => hps.cells k (.inr e))
            refine ⟨hko.from _, KpE.of_trn htW fun k e hk => ?_, d'.set (pn side ux uy) (xa + cc), b2, off2, cap2, q' ++ [⟨ux, uy⟩], hps2, ?_, ?_, ?_, Nat.lt_trans (HMG.out hlt).2 M8.out.lf⟩
            · rcases e with e | e | e
              · exact .inl e
              · exact .inr (.inl e)
              · rcases M8.out.hb with h | h
                · exact .inr (.inr (e.trans h))
                · omega
            · rcases hl2 with rfl | hl2
              · exact M8.out.hb
              · exact .inr (by omega)
            · refine (M8.out.tr.trans (Trn.set vX gd (pn side ux uy) (.int .i64 (xa + cc))) fun k _ e => .inl e).trans ht2 fun k hk e => ?_
              rcases e with e | e
              · exact .inr (.inl e)
              · rcases M8.out.hb with h | h
                · exact .inr (.inr (e.trans h))
                · omega
            · have := (HMG.out hlt).1
              have e := done_snoc pre ⟨⟨ux, uy⟩, hxx⟩
              dsimp only at e
              rw [← e]
              exact this
          by_cases h1 : xu = -1
          · have hq1 : (xu == -1) = true := by simpa using h1
            have HX1 : Hid (xu < 0 ∨ xa + cc < xu) := .inl (by omega)
            clear h1
            gi_wp2_with fail
            have hps' := M8.out.ps.store (pn side ux uy) (xa + cc)
            refine ⟨trivial, (CallsIn.inRound L (callsIn_wide.2 (pQPut_any ux uy hps'.qb (Nat.le_of_lt (World.block_lt_of_cell? _ _ hps'.g.c0)) HQL.out))).mono ?_⟩
            rintro e vP ⟨rfl, b2, off2, cap2, hq2, hl2, ht2⟩
            have HF2 := Lib.hid (HFIN.out vP b2 off2 cap2 hq2 (hl2.imp id (fun h => by simpa using h)) ht2 HX1.out)
            clear hq2 hl2 ht2 hps'
            gi_wp2_with fail
            exact HF2.out
          · have hq1 : (xu == -1) = false := by simpa using h1
            have h0 : 0 ≤ xu := by have := HXU.out; omega
            by_cases h2 : xa + cc < xu
            · have hq2 : decide (xa + cc < xu) = true := decide_eq_true h2
              have HX1 : Hid (xu < 0 ∨ xa + cc < xu) := .inr h2
              clear h0 h1
              gi_wp2_with fail
              have hps' := M8.out.ps.store (pn side ux uy) (xa + cc)
              refine ⟨trivial, (CallsIn.inRound L (callsIn_wide.2 (pQPut_any ux uy hps'.qb (Nat.le_of_lt (World.block_lt_of_cell? _ _ hps'.g.c0)) HQL.out))).mono ?_⟩
              rintro e vP ⟨rfl, b2, off2, cap2, hq2, hl2, ht2⟩
              have HF2 := Lib.hid (HFIN.out vP b2 off2 cap2 hq2 (hl2.imp id (fun h => by simpa using h)) ht2 HX1.out)
              clear hq2 hl2 ht2 hps'
              gi_wp2_with fail
              exact HF2.out
            · have hq2 : decide (xa + cc < xu) = false := decide_eq_false h2
              have HDM := Lib.hid (HMK.out h0 (by omega))
              clear h0 h1
              gi_wp2_with fail
              refine ⟨((Trn.of_below (p := fun _ => False) HBX2.out).others fun _ e => e.elim).from _, KpE.of_trn (p := fun _ => False) (Trn.of_below HBX2.out) (fun _ e => e.elim), d', b', off', cap', q', M8.out.ps, M8.out.hb, M8.out.tr, ?_, M8.out.lf⟩
              have e := done_snoc pre ⟨⟨ux, uy⟩, hxx⟩
              dsimp only at e
              rw [← e]
              exact HDM.out
        case done =>
          rintro D xs W hD hxs ⟨d', b', off', cap', q', hpi⟩ hdf
          have HPI := Lib.hid hpi
          have HXS := Lib.hid hxs
          have HDF := Lib.hid hdf
          clear hpi hxs hdf HPI0
          go_wp2_with fail
          go_roundg (lft side l d' q')
          case measure => exact HPI.out.lf
          case rel =>
            refine ⟨d', b', off', cap', q', pn side px py, _, HPI.out.ps, ⟨HPI.out.dm, fun j hj => ?_, Nat.le_refl _⟩, ?_, HBL9.out.trans (HPI.out.tr.below (fun k e => by have := HLO.out; omega) HBL9.out.size)⟩
            · obtain ⟨u, v, h1, h2, rfl⟩ := stp_to HR.out HOP.out hj
              have hm : (⟨u, v⟩ : Pl) ∈ xs.map (·.1) := by rw [HXS.out]; exact bes_mem.2 ⟨h2, h1⟩
              obtain ⟨x, hx, e⟩ := List.mem_map.1 hm
              exact ⟨x, hx, by rw [e]⟩
            · refine HMK9.out.push (HMK9.out.keep fun D' _ hD' => ?_) (Nat.le_trans HBL9.out.size hD) hD HDF.out
              refine (HPI.out.tr.block D' (Array.getElem?_eq_some_iff.1 hD').1 fun e => ?_).trans hD'
              obtain ⟨x, hx, hc⟩ := HS9.out.cells D' e
              rw [hD'] at hx
              cases hx
              cases hc
        case stop =>
          rintro D c pre W _ _ h _
          exact h.elim
end Go.Proofs.Ytmjbefjkkncjlaa

namespace Go.Proofs.Ytmjbefjkkncjlaa
open Go.RowKit
set_option linter.unusedVariables false
set_option linter.unusedSimpArgs false

set_option maxRecDepth 100000 in
set_option maxHeartbeats 1000000 in
theorem pDists_any (side fx fy : Int) (A : Option Addr) (c : Nat) (l : List Int) (d0 : List Int) (w : World) (h : RI w w.heap.size A l) (hl : l.length ≤ 1000000000) (hx : In64 fx) (hy : In64 fy) (hd : (gridRight side l && opn side l fx fy) = true → GDist side l fx fy d0) :
    Calls Try.prog 9 #[.agg #[.int .i64 side, .slice A l.length c], .agg #[.int .i64 fx, .int .i64 fy]] w fun e w' => NOut w w' (dOut side l fx fy d0) e := by
  cases hro : (gridRight side l && opn side l fx fy)
  · have HE : Hid (dOut side l fx fy d0 = []) := by show _ = _; rw [dOut, hro]; rfl
    rw [HE.out]
    have hOp := fun w h => pOpen5_any side fx fy A c l w h hl hx hy
    rw [hro] at hOp
    have HB := Lib.hid (B2.made w side A c l fx fy)
    have H := Lib.hid h
    clear h hl hx hy hd hro
    refine (callsIn_wide (n := 9)).1 ?_
    refine callsIn_of_wp_marks Try.func9 rfl trivial ?_ rfl
    simp only [Try.ntmps9, List.size_toArray, List.length_cons, List.length_nil, Nat.reduceAdd, Nat.reduceSub, Array.replicate_succ, Array.replicate_zero, List.push_toArray, List.append_toArray, List.nil_append, List.cons_append]
    refine wpIn_wide.2 ?_
    go_wp2_with fail
    refine (hOp _ ((H.out.below HB.out.bel).mono HB.out.bel.size)).mono ?_
    rintro e w1 ⟨rfl, hb1⟩
    have HB1 := Lib.hid (HB.out.below hb1)
    clear hb1 HB hOp
    go_wp2_with fail
    refine ⟨_, results_tmp rfl _ _ _, ?_⟩
    exact ⟨none, 0, rfl, World.ownsRow_nil _ _ _ _, HB1.out.bel⟩
  · have h2 := hro
    simp only [Bool.and_eq_true] at h2
    have HE : Hid (dOut side l fx fy d0 = d0) := by show _ = _; rw [dOut, hro]; rfl
    rw [HE.out]
    exact pDists_main side fx fy A c l d0 w h h2.1 h2.2 (hd hro)
end Go.Proofs.Ytmjbefjkkncjlaa

namespace Go.Proofs.Ytmjbefjkkncjlaa
open Go.RowKit
set_option linter.unusedVariables false
set_option linter.unusedSimpArgs false

set_option maxRecDepth 100000 in
set_option maxHeartbeats 1000000 in
theorem pDist_any (side x y u v : Int) (A : Option Addr) (c : Nat) (l : List Int) (d0 : List Int) (w : World) (h : RI w w.heap.size A l) (hl : l.length ≤ 1000000000) (hx : In64 x) (hy : In64 y) (hu : In64 u) (hv : In64 v) (hd : (gridRight side l && opn side l x y) = true → GDist side l x y d0) :
    Calls Try.prog 14 #[.agg #[.int .i64 side, .slice A l.length c], .agg #[.int .i64 x, .int .i64 y], .agg #[.int .i64 u, .int .i64 v]] w fun e w' => e = .returned (.int .i64 (dOne side l x y u v d0)) ∧ Below w.heap.size w w' := by
  have HB := Lib.hid (B3.made w side A c l x y u v)
  have H := Lib.hid h
  have hO1 := fun w h => pOpen5_any side x y A c l w h hl hx hy
  have hO2 := fun w h => pOpen5_any side u v A c l w h hl hu hv
  have hD := fun w h => pDists_any side x y A c l d0 w h hl hx hy hd
  clear h hu hv
  cases ho : (gridRight side l && opn side l x y)
  · have HE : Hid (dOne side l x y u v d0 = -1) := by show _ = _; rw [dOne, ho]; rfl
    rw [HE.out]
    rw [ho] at hO1
    clear ho hd hx hy hl hD
    go_enter Try.func14, Try.ntmps14
    go_wp2_with fail
    refine (hO1 _ ((H.out.below HB.out.bel).mono HB.out.bel.size)).mono ?_
    rintro e w1 ⟨rfl, hb1⟩
    have HB1 := Lib.hid (HB.out.below hb1)
    clear hb1 HB
    go_wp2_with fail
    go_ret
    exact ⟨rfl, HB1.out.bel⟩
  · have hr : gridRight side l = true := by simp only [Bool.and_eq_true] at ho; exact ho.1
    have hop := ho
    rw [hr, Bool.true_and] at hop
    cases hq : opn side l u v
    · have HE : Hid (dOne side l x y u v d0 = -1) := by show _ = _; rw [dOne, hq, Bool.and_false]; rfl
      rw [HE.out]
      rw [ho] at hO1
      rw [hq, Bool.and_false] at hO2
      clear ho hq hd hx hy hl hD hr hop
      go_enter Try.func14, Try.ntmps14
      go_wp2_with fail
      refine (hO1 _ ((H.out.below HB.out.bel).mono HB.out.bel.size)).mono ?_
      rintro e w1 ⟨rfl, hb1⟩
      have HB1 := Lib.hid (HB.out.below hb1)
      clear hb1 HB
      obtain ⟨g0, g1, _, _⟩ := HB1.out.g
      obtain ⟨f0, f1⟩ := HB1.out.f
      obtain ⟨t0, t1⟩ := HB1.out.t
      go_wp2_with fail
      refine (hO2 _ ((H.out.below HB1.out.bel).mono HB1.out.bel.size)).mono ?_
      rintro e w2 ⟨rfl, hb2⟩
      have HB2 := Lib.hid (HB1.out.below hb2)
      clear hb2 HB1 g0 g1 f0 f1 t0 t1
      go_wp2_with fail
      go_ret
      exact ⟨rfl, HB2.out.bel⟩
    · have HE : Hid (dOne side l x y u v d0 = dk d0 (pn side u v)) := by show _ = _; rw [dOne, ho, hq]; rfl
      have hgd := hd ho
      have HED : Hid (dOut side l x y d0 = d0) := by show _ = _; rw [dOut, ho]; rfl
      have hgu := (opn_parts hr hq).1
      have hNu := fun w => pNum5_any (side := side) (x := u) (y := v) (l := l) hr hgu w
      have hlu := (pn_lt hr hgu).1
      have hdl : d0.length = l.length := hgd.len
      have hluI : ((pn side u v : Nat) : Int) < (d0.length : Int) := by omega
      have hlu2 : pn side u v < d0.length := by omega
      have HLU := Lib.hid hlu2
      have HDK : Hid (∀ hh : pn side u v < d0.length, dk d0 (pn side u v) = d0[pn side u v]) := fun hh => dk_lt hh
      rw [HE.out]
      rw [HED.out] at hD
      unfold NOut at hD
      rw [ho] at hO1
      rw [hr, hq, Bool.and_self] at hO2
      clear ho hq hd hx hy hl hr hop hgd hgu hlu hdl hlu2
      go_enter Try.func14, Try.ntmps14
      go_wp2_with fail
      refine (hO1 _ ((H.out.below HB.out.bel).mono HB.out.bel.size)).mono ?_
      rintro e w1 ⟨rfl, hb1⟩
      have HB1 := Lib.hid (HB.out.below hb1)
      clear hb1 HB
      obtain ⟨g0, g1, _, _⟩ := HB1.out.g
      obtain ⟨f0, f1⟩ := HB1.out.f
      obtain ⟨t0, t1⟩ := HB1.out.t
      go_wp2_with fail
      refine (hO2 _ ((H.out.below HB1.out.bel).mono HB1.out.bel.size)).mono ?_
      rintro e w2 ⟨rfl, hb2⟩
      have HB2 := Lib.hid (HB1.out.below hb2)
      clear hb2 HB1 g0 g1 f0 f1 t0 t1
      have HBd := Lib.hid (HB2.out.below (bel_D _))
      have HSB : Hid (∀ wr, B3 w side A c l x y u v wr → wr.cell? ⟨w.heap.size, 0, none⟩ = some (.int .i64 side) ∧ wr.cell? ⟨w.heap.size, 1, none⟩ = some (.slice A l.length c) ∧ wr.cell? ⟨w.heap.size + 1, 0, none⟩ = some (.int .i64 x) ∧ wr.cell? ⟨w.heap.size + 1, 1, none⟩ = some (.int .i64 y) ∧ wr.cell? ⟨w.heap.size + 1 + 1, 0, none⟩ = some (.int .i64 u) ∧ wr.cell? ⟨w.heap.size + 1 + 1, 1, none⟩ = some (.int .i64 v)) := fun wr h => ⟨h.g.c0, h.g.c1, h.f.c0, h.f.c1, h.t.c0, h.t.c1⟩
      have hkeep := HSB.out _ HBd.out
      go_upto_region 3 with fail
      refine wp_region_noPanic ?_
      refine wp_region_held_drew (S := (fun w' => w'.cell? ⟨w.heap.size, 0, none⟩ = some (.int .i64 side) ∧ w'.cell? ⟨w.heap.size, 1, none⟩ = some (.slice A l.length c) ∧ w'.cell? ⟨w.heap.size + 1, 0, none⟩ = some (.int .i64 x) ∧ w'.cell? ⟨w.heap.size + 1, 1, none⟩ = some (.int .i64 y) ∧ w'.cell? ⟨w.heap.size + 1 + 1, 0, none⟩ = some (.int .i64 u) ∧ w'.cell? ⟨w.heap.size + 1 + 1, 1, none⟩ = some (.int .i64 v))) (by kernel_rfl) hkeep (fun hHeld => ?_)
      refine wpAnyH_take (i := 0) (v := ?_) rfl (by kernel_rfl) (by kernel_rfl) (by kernel_rfl) (fun _ _ _ h => h) (Or.inl ⟨by rfl, ?_⟩) (by assumption) ?_
      rotate_left 1
      · (intro w' hSw; (try dsimp only at hSw); go_simp <;> with_reducible rfl)
      simp only [Act.put, List.getElem_toArray, List.getElem_cons_succ, List.getElem_cons_zero, List.setIfInBounds_toArray, List.set_cons_zero, List.set_cons_succ]
      refine wpAnyH_take (i := 1) (v := ?_) rfl (by kernel_rfl) (by kernel_rfl) (by kernel_rfl) (fun _ _ _ h => h) (Or.inl ⟨by rfl, ?_⟩) (by assumption) ?_
      rotate_left 1
      · (intro w' hSw; (try dsimp only at hSw); go_simp <;> with_reducible rfl)
      simp only [Act.put, List.getElem_toArray, List.getElem_cons_succ, List.getElem_cons_zero, List.setIfInBounds_toArray, List.set_cons_zero, List.set_cons_succ]
      refine wpAnyH_take (i := 3) (v := ?_) rfl (by kernel_rfl) (by kernel_rfl) (by kernel_rfl) (fun _ _ _ h => h) (Or.inl ⟨by rfl, ?_⟩) (by assumption) ?_
      rotate_left 1
      · (intro w' hSw; (try dsimp only at hSw); go_simp <;> with_reducible rfl)
      simp only [Act.put, List.getElem_toArray, List.getElem_cons_succ, List.getElem_cons_zero, List.setIfInBounds_toArray, List.set_cons_zero, List.set_cons_succ]
      refine wpAnyH_take (i := 4) (v := ?_) rfl (by kernel_rfl) (by kernel_rfl) (by kernel_rfl) (fun _ _ _ h => h) (Or.inl ⟨by rfl, ?_⟩) (by assumption) ?_
      rotate_left 1
      · (intro w' hSw; (try dsimp only at hSw); go_simp <;> with_reducible rfl)
      simp only [Act.put, List.getElem_toArray, List.getElem_cons_succ, List.getElem_cons_zero, List.setIfInBounds_toArray, List.set_cons_zero, List.set_cons_succ]
      refine wpAnyH_take (i := 5) (v := ?_) rfl (by kernel_rfl) (by kernel_rfl) (by kernel_rfl) (fun _ _ _ h => h) (Or.inl ⟨by rfl, ?_⟩) (by assumption) ?_
      rotate_left 1
      · (intro w' hSw; (try dsimp only at hSw); go_simp <;> with_reducible rfl)
      simp only [Act.put, List.getElem_toArray, List.getElem_cons_succ, List.getElem_cons_zero, List.setIfInBounds_toArray, List.set_cons_zero, List.set_cons_succ]
      refine wpAnyH_ready (rs := [2]) (by kernel_rfl) (by simp) ?_
      refine (AllReadyH.cons rfl (fun K hK => ?_) AllReadyH.nil)
      go_simp
      (first | (go_at_call 39; have _c := v1; clear _c; refine (hNu v1).mono ?_; rintro e v2 ⟨rfl, hb⟩; have HBv2 := Lib.hid (HBv1.out.below hb); have hch2 := (hb.cell (p := ⟨gh, pn side u v, none⟩) hglt).trans hch; clear hkeep; have hkeep := HSB.out _ HBv2.out; clear hb) | (go_at_call 9; refine (hD _ ((H.out.below HBd.out.bel).mono HBd.out.bel.size)).mono ?_; rintro e v1 ⟨A4, c4, rfl, o4, hb⟩; have HBv1 := Lib.hid (HBd.out.below hb); obtain ⟨gh, rfl, _, hglt, hch, _⟩ := o4.at_ (j := pn side u v) HLU.out; rw [← HDK.out HLU.out] at hch; clear hkeep; have hkeep := HSB.out _ HBv1.out; clear o4 hb))
      try go_wp2_with fail
      refine hK.out _ _ ?_ (fun hHeld => ?_)
      · exact hkeep
      clear hK K
      try simp only [Act.put, List.getElem_toArray, List.getElem_cons_succ, List.getElem_cons_zero, List.setIfInBounds_toArray, List.set_cons_zero, List.set_cons_succ]
      refine wpAnyH_ready (rs := [6]) (by kernel_rfl) (by simp) ?_
      refine (AllReadyH.cons rfl (fun K hK => ?_) AllReadyH.nil)
      go_simp
      (first | (go_at_call 39; have _c := v1; clear _c; refine (hNu v1).mono ?_; rintro e v2 ⟨rfl, hb⟩; have HBv2 := Lib.hid (HBv1.out.below hb); have hch2 := (hb.cell (p := ⟨gh, pn side u v, none⟩) hglt).trans hch; clear hkeep; have hkeep := HSB.out _ HBv2.out; clear hb) | (go_at_call 9; refine (hD _ ((H.out.below HBd.out.bel).mono HBd.out.bel.size)).mono ?_; rintro e v1 ⟨A4, c4, rfl, o4, hb⟩; have HBv1 := Lib.hid (HBd.out.below hb); obtain ⟨gh, rfl, _, hglt, hch, _⟩ := o4.at_ (j := pn side u v) HLU.out; rw [← HDK.out HLU.out] at hch; clear hkeep; have hkeep := HSB.out _ HBv1.out; clear o4 hb))
      try go_wp2_with fail
      refine hK.out _ _ ?_ (fun hHeld => ?_)
      · exact hkeep
      clear hK K
      try simp only [Act.put, List.getElem_toArray, List.getElem_cons_succ, List.getElem_cons_zero, List.setIfInBounds_toArray, List.set_cons_zero, List.set_cons_succ]
      refine wpAnyH_take (i := 7) (v := ?_) rfl (by kernel_rfl) (by kernel_rfl) (by kernel_rfl) (fun _ _ _ h => h) (Or.inl ⟨by rfl, ?_⟩) (by assumption) ?_
      rotate_left 1
      · (intro w' hSw; (try dsimp only at hSw); go_simp <;> with_reducible rfl)
      simp only [Act.put, List.getElem_toArray, List.getElem_cons_succ, List.getElem_cons_zero, List.setIfInBounds_toArray, List.set_cons_zero, List.set_cons_succ]
      refine wpAnyH_ready (rs := [8]) (by kernel_rfl) (by simp) ?_
      refine (AllReadyH.cons rfl (fun K hK => ?_) AllReadyH.nil)
      go_simp
      refine hK.out _ _ ?_ (fun hHeld => ?_)
      · exact hkeep
      clear hK K
      try simp only [Act.put, List.getElem_toArray, List.getElem_cons_succ, List.getElem_cons_zero, List.setIfInBounds_toArray, List.set_cons_zero, List.set_cons_succ]
      refine wpAnyH_take (i := 9) (v := ?_) rfl (by kernel_rfl) (by kernel_rfl) (by kernel_rfl) (fun _ _ _ h => h) (Or.inl ⟨by rfl, ?_⟩) (by assumption) ?_
      rotate_left 1
      · (intro w' hSw; (try dsimp only at hSw); go_simp <;> with_reducible rfl)
      simp only [Act.put, List.getElem_toArray, List.getElem_cons_succ, List.getElem_cons_zero, List.setIfInBounds_toArray, List.set_cons_zero, List.set_cons_succ]
      refine wpAnyH_done (by kernel_rfl) ?_ _
      refine NoPanic.normal ?_
      all_goals
        go_wp2
        go_ret
        exact ⟨rfl, HBv2.out.bel⟩
end Go.Proofs.Ytmjbefjkkncjlaa
