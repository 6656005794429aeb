/- What is filled. -/
import Derived.Test.YtmjbefjkkncjlaaGridA
namespace Go.Proofs.Ytmjbefjkkncjlaa
open Go.RowKit

/-- l with t at the places that p tells. -/
def paint (p : Nat → Bool) (t : Int) (l : List Int) : List Int := l.mapIdx fun q v => if p q then t else v
theorem paint_length (p : Nat → Bool) (t : Int) (l : List Int) : (paint p t l).length = l.length := by simp [paint]
theorem paint_get (p : Nat → Bool) (t : Int) (l : List Int) (q : Nat) (h : q < (paint p t l).length) : (paint p t l)[q] = if p q then t else l[q]'(by simpa [paint] using h) := by simp [paint]
theorem paint_congr {p p' : Nat → Bool} {t : Int} {l : List Int} (h : ∀ q, q < l.length → p q = p' q) : paint p t l = paint p' t l := by
  refine List.ext_getElem (by simp [paint]) fun q h1 h2 => ?_
  rw [paint_get, paint_get, h q (by simpa [paint] using h1)]
theorem paint_none {t : Int} {l : List Int} : paint (fun _ => false) t l = l := by
  refine List.ext_getElem (by simp [paint]) fun q h1 h2 => ?_
  rw [paint_get]; simp
theorem paint_set (p : Nat → Bool) (t : Int) (l : List Int) (k : Nat) : (paint p t l).set k t = paint (fun q => p q || q == k) t l := by
  refine List.ext_getElem (by simp [paint]) fun q h1 h2 => ?_
  rw [List.getElem_set, paint_get]
  by_cases e : k = q
  · subst e; rw [paint_get]; simp
  · rw [if_neg e, paint_get]
    have : (q == k) = false := by simpa using fun h => e h.symm
    simp [this]
def inRect (side x y w h : Int) (q : Nat) : Bool := decide (x ≤ (q : Int) % side ∧ (q : Int) % side < x + w ∧ y ≤ (q : Int) / side ∧ (q : Int) / side < y + h)
def inRow (side x j w : Int) (q : Nat) : Bool := decide (x ≤ (q : Int) % side ∧ (q : Int) % side < x + w ∧ (q : Int) / side = j)
theorem rect_none (side x y w : Int) : inRect side x y w 0 = fun _ => false := by
  funext q; rw [← Bool.not_eq_true]; simp only [inRect, decide_eq_true_eq]; omega
theorem row_none (side x j : Int) : inRow side x j 0 = fun _ => false := by
  funext q; rw [← Bool.not_eq_true]; simp only [inRow, decide_eq_true_eq]; omega
theorem row_step {side x j i : Int} {n : Nat} (hs : sideOk side = true) (hx : 0 ≤ x) (h0 : x ≤ i) (h1 : i < side) (hn : j * side + i = n) : (fun q => inRow side x j (i - x) q || q == n) = inRow side x j (i + 1 - x) := by
  funext q
  rw [Bool.eq_iff_iff]
  simp only [inRow, Bool.or_eq_true, decide_eq_true_eq, beq_iff_eq]
  rcases (sideOk_iff side).1 hs with rfl | rfl | rfl | rfl <;> omega
theorem rect_step {side x y j w : Int} (h0 : y ≤ j) : (fun q => inRect side x y w (j - y) q || inRow side x j w q) = inRect side x y w (j + 1 - y) := by
  funext q
  rw [Bool.eq_iff_iff]
  simp only [inRect, inRow, Bool.or_eq_true, decide_eq_true_eq]
  omega
def fillOk (side : Int) (l : List Int) (tile : Int) : Bool := gridRight side l && tileOk tile
def fillIn (side x y w h : Int) : Bool := gridIn side x y && inIs w 1 (side - x) && inIs h 1 (side - y)
def fillL (side : Int) (l : List Int) (x y w h t : Int) : List Int := paint (inRect side x y w h) t l
def fillSide (side : Int) (l : List Int) (x y w h t : Int) : Int := if fillOk side l t && fillIn side x y w h then side else 0
def fillTiles (side : Int) (l : List Int) (x y w h t : Int) : List Int := if fillOk side l t && fillIn side x y w h then fillL side l x y w h t else []
def fillCode (side : Int) (l : List Int) (x y w h t : Int) : Int := if fillOk side l t then (if fillIn side x y w h then 0 else 8) else 1
theorem fillIn_iff {side x y w h : Int} : fillIn side x y w h = true ↔ 0 ≤ x ∧ 0 ≤ y ∧ 1 ≤ w ∧ 1 ≤ h ∧ x + w ≤ side ∧ y + h ≤ side := by
  simp only [fillIn, Bool.and_eq_true, gridIn_iff, inIs, decide_eq_true_eq]; omega

/-- Block b holds the fields of a map that is to be handed back, still empty. -/
structure GO (w : World) (b : Nat) : Prop where
  c0 : w.cell? ⟨b, 0, none⟩ = some (.int .i64 0)
  c1 : w.cell? ⟨b, 1, none⟩ = some (.slice none 0 0)
  c2 : w.cell? ⟨b, 2, none⟩ = some (.int .i64 0)
  f0 : w.frozen? ⟨b, 0, none⟩ = false
  f1 : w.frozen? ⟨b, 1, none⟩ = false
  f2 : w.frozen? ⟨b, 2, none⟩ = false
theorem GO.below {w w' : World} {b B : Nat} (h : GO w b) (hb : Below B w w') (hB : b < B) : GO w' b :=
  ⟨(hb.cell (p := ⟨b, 0, none⟩) hB).trans h.c0, (hb.cell (p := ⟨b, 1, none⟩) hB).trans h.c1, (hb.cell (p := ⟨b, 2, none⟩) hB).trans h.c2, (hb.frozen (p := ⟨b, 0, none⟩) hB).trans h.f0, (hb.frozen (p := ⟨b, 1, none⟩) hB).trans h.f1, (hb.frozen (p := ⟨b, 2, none⟩) hB).trans h.f2⟩
theorem GO.far {w : World} {b : Nat} (h : GO w b) {p : Addr} (hp : p.block ≠ b) (u : Value) : GO (w.setCell p u) b :=
  ⟨(World.cell?_setCell_other _ _ _ _ (by rintro rfl; exact hp rfl)).trans h.c0, (World.cell?_setCell_other _ _ _ _ (by rintro rfl; exact hp rfl)).trans h.c1, (World.cell?_setCell_other _ _ _ _ (by rintro rfl; exact hp rfl)).trans h.c2, by simpa using h.f0, by simpa using h.f1, by simpa using h.f2⟩
theorem GO.made (w : World) (t : TypeId) : GO (w.alloc (.cells #[.int .i64 0, .slice none 0 0, .int .i64 0] t)) w.heap.size :=
  ⟨by simp [go_sem], by simp [go_sem], by simp [go_sem], by simp [go_sem], by simp [go_sem], by simp [go_sem]⟩

/-- What holds while the model fills: the map that was handed in, the map that is to be handed back, the copy in block o, whose tiles lie in block g. -/
structure FillInv (w : World) (side : Int) (A : Option Addr) (n c : Nat) (B o g c' : Nat) (wr : World) (l : List Int) : Prop where
  inn : GB wr w.heap.size side (.slice A n c)
  res : GO wr (w.heap.size + 1)
  cpy : GB wr o side (.slice (some ⟨g, 0, none⟩) n c')
  own : OwnI 2 .i64 wr B (.slice (some ⟨g, 0, none⟩) n c') l
  bel : Below w.heap.size w wr
  siz : w.heap.size + 1 < B ∧ B ≤ g ∧ g < o ∧ o < wr.heap.size
theorem FillInv.drew {w : World} {side : Int} {A : Option Addr} {n c B o g c' : Nat} {wr : World} {l : List Int} (h : FillInv w side A n c B o g c' wr l) : FillInv w side A n c B o g c' wr.drew l :=
  ⟨⟨h.inn.c0, h.inn.c1, h.inn.f0, h.inn.f1⟩, ⟨h.res.c0, h.res.c1, h.res.c2, h.res.f0, h.res.f1, h.res.f2⟩, ⟨h.cpy.c0, h.cpy.c1, h.cpy.f0, h.cpy.f1⟩, h.own.drew, h.bel.drew, h.siz⟩
theorem FillInv.store {w : World} {side : Int} {A : Option Addr} {n c B o g c' : Nat} {wr : World} {l : List Int} (h : FillInv w side A n c B o g c' wr l) (j : Nat) (t : Int) : FillInv w side A n c B o g c' (wr.setCell ⟨g, j, none⟩ (.int .i64 t)) (l.set j t) := by
  obtain ⟨h1, h2, h3, h4⟩ := h.siz
  exact ⟨h.inn.far (by show g ≠ _; omega) _, h.res.far (by show g ≠ _; omega) _, h.cpy.far (by show g ≠ _; omega) _, (h.own.store t).1, h.bel.setCell (by show w.heap.size ≤ g; omega) _, h1, h2, h3, by simpa [World.setCell] using h4⟩

set_option maxRecDepth 100000 in
set_option maxHeartbeats 400000 in
theorem mFill_any (side x y wd ht tile : Int) (A : Option Addr) (c : Nat) (l : List Int) (w : World) (h : RI w w.heap.size A l) (hl : l.length ≤ 1000000000)
    (hx0 : -9223372036854775808 ≤ x) (hx1 : x ≤ 9223372036854775807) (hy0 : -9223372036854775808 ≤ y) (hy1 : y ≤ 9223372036854775807) :
    Calls Try.prog 70 #[.agg #[.int .i64 side, .slice A l.length c], .int .i64 x, .int .i64 y, .int .i64 wd, .int .i64 ht, .int .i64 tile] w fun e w' => GOut w w' (fillSide side l x y wd ht tile) (fillTiles side l x y wd ht tile) (fillCode side l x y wd ht tile) e := by
  have hbw : Below w.heap.size w ((w.alloc (.cells #[.int .i64 side, .slice A l.length c] 25)).alloc (.cells #[.int .i64 0, .slice none 0 0, .int .i64 0] 94)) := ((Below.refl _ _).alloc (Nat.le_refl _) _).alloc (by simp) _
  have H := Lib.hid h
  clear h
  cases hr : gridRight side l
  · have HR := Lib.hid hr
    have hRt := fun w h => mRight_any side A c l w h hl
    rw [hr] at hRt
    go_enter Try.func70, Try.ntmps70
    go_wp2_with fail
    refine (hRt _ ((H.out.below hbw).mono (by simp; omega))).mono ?_
    rintro e w1 ⟨rfl, hb1⟩
    have HB1 := Lib.hid (hbw.trans (hb1.mono (by simp; omega)))
    obtain ⟨hc1, hf1⟩ := bcell hb1
    have hz1 : w.heap.size + 1 < w1.heap.size := by have := hb1.size; simp at this; omega
    have hy1 : w.heap.size < w1.heap.size := by omega
    clear hb1
    go_wp2_with fail
    refine (mIll_any 1 _).mono ?_
    rintro e w4 ⟨rfl, hb4⟩
    have HB4 := Lib.hid (HB1.out.trans (hb4.mono HB1.out.size))
    obtain ⟨hc4, hf4⟩ := bcell hb4
    clear hb4
    go_wp2
    refine bodyPost_ret (v := .agg #[.int .i64 0, .slice none 0 0, .int .i64 1]) (by simp [results, Try.results70, go_sem, hc4, hc1, hz1]) rfl ?_
    have hok : fillOk side l tile = false := by simp [fillOk, HR.out]
    simp only [fillSide, fillTiles, fillCode, hok, Bool.false_and]
    exact ⟨none, 0, rfl, OwnI.nil _ _ _ _, ((HB4.out.setCell (by simp) _).setCell (by simp) _).setCell (by simp) _⟩
  · cases ht' : tileOk tile
    · have HR := Lib.hid hr
      have hRt := fun w h => mRight_any side A c l w h hl
      rw [hr] at hRt
      have hTt := mTile_any tile
      rw [ht'] at hTt
      go_enter Try.func70, Try.ntmps70
      go_wp2_with fail
      refine (hRt _ ((H.out.below hbw).mono (by simp; omega))).mono ?_
      rintro e w1 ⟨rfl, hb1⟩
      have HB1 := Lib.hid (hbw.trans (hb1.mono (by simp; omega)))
      obtain ⟨hc1, hf1⟩ := bcell hb1
      have hz1 : w.heap.size + 1 < w1.heap.size := by have := hb1.size; simp at this; omega
      have hy1 : w.heap.size < w1.heap.size := by omega
      clear hb1
      go_wp2_with fail
      refine (hTt _).mono ?_
      rintro e w2 ⟨rfl, rfl⟩
      go_wp2_with fail
      refine (mIll_any 1 _).mono ?_
      rintro e w4 ⟨rfl, hb4⟩
      have HB4 := Lib.hid (HB1.out.trans (hb4.mono HB1.out.size))
      obtain ⟨hc4, hf4⟩ := bcell hb4
      clear hb4
      go_wp2
      refine bodyPost_ret (v := .agg #[.int .i64 0, .slice none 0 0, .int .i64 1]) (by simp [results, Try.results70, go_sem, hc4, hc1, hz1]) rfl ?_
      have hok : fillOk side l tile = false := by simp [fillOk, ht']
      simp only [fillSide, fillTiles, fillCode, hok, Bool.false_and]
      exact ⟨none, 0, rfl, OwnI.nil _ _ _ _, ((HB4.out.setCell (by simp) _).setCell (by simp) _).setCell (by simp) _⟩
    · cases hin : gridIn side x y
      · have HR := Lib.hid hr
        have hRt := fun w h => mRight_any side A c l w h hl
        rw [hr] at hRt
        have hTt := mTile_any tile
        rw [ht'] at hTt
        have hs := (right_parts hr).1
        have hIt := fun w => mIn_any side x y A l.length c w hs
        rw [hin] at hIt
        go_enter Try.func70, Try.ntmps70
        go_wp2_with fail
        refine (hRt _ ((H.out.below hbw).mono (by simp; omega))).mono ?_
        rintro e w1 ⟨rfl, hb1⟩
        have HB1 := Lib.hid (hbw.trans (hb1.mono (by simp; omega)))
        obtain ⟨hc1, hf1⟩ := bcell hb1
        have hz1 : w.heap.size + 1 < w1.heap.size := by have := hb1.size; simp at this; omega
        have hy1 : w.heap.size < w1.heap.size := by omega
        clear hb1
        go_wp2_with fail
        refine (hTt _).mono ?_
        rintro e w2 ⟨rfl, rfl⟩
        go_wp2_with fail
        refine (hIt _).mono ?_
        rintro e w2 ⟨rfl, hb2⟩
        have HB2 := Lib.hid (HB1.out.trans (hb2.mono HB1.out.size))
        obtain ⟨hc2, hf2⟩ := bcell hb2
        have hz2 : w.heap.size + 1 < w2.heap.size := by have := hb2.size; omega
        have hy2 : w.heap.size < w2.heap.size := by omega
        clear hb2
        go_wp2_with fail
        refine (mIll_any 8 _).mono ?_
        rintro e w4 ⟨rfl, hb4⟩
        have HB4 := Lib.hid (HB2.out.trans (hb4.mono HB2.out.size))
        obtain ⟨hc4, hf4⟩ := bcell hb4
        clear hb4
        go_wp2
        refine bodyPost_ret (v := .agg #[.int .i64 0, .slice none 0 0, .int .i64 8]) (by simp [results, Try.results70, go_sem, hc4, hc1, hc2, hz1, hz2]) rfl ?_
        have hok : fillOk side l tile = true := by simp [fillOk, HR.out, ht']
        have hfi : fillIn side x y wd ht = false := by simp [fillIn, hin]
        simp only [fillSide, fillTiles, fillCode, hok, hfi, Bool.and_false, if_true]
        exact ⟨none, 0, rfl, OwnI.nil _ _ _ _, ((HB4.out.setCell (by simp) _).setCell (by simp) _).setCell (by simp) _⟩
      · cases hiw : inIs wd 1 (side - x)
        · have HR := Lib.hid hr
          have hRt := fun w h => mRight_any side A c l w h hl
          rw [hr] at hRt
          have hTt := mTile_any tile
          rw [ht'] at hTt
          have hs := (right_parts hr).1
          have hIt := fun w => mIn_any side x y A l.length c w hs
          rw [hin] at hIt
          have hgi := gridIn_iff.1 hin
          have hsb := side_bound hs
          have e1 : IntKind.i64.wrap (side - x) = side - x := IntWalk.i64_in _ (by omega)
          have hWt := mIs_any wd 1 (side - x)
          rw [hiw] at hWt
          go_enter Try.func70, Try.ntmps70
          go_wp2_with fail
          refine (hRt _ ((H.out.below hbw).mono (by simp; omega))).mono ?_
          rintro e w1 ⟨rfl, hb1⟩
          have HB1 := Lib.hid (hbw.trans (hb1.mono (by simp; omega)))
          obtain ⟨hc1, hf1⟩ := bcell hb1
          have hz1 : w.heap.size + 1 < w1.heap.size := by have := hb1.size; simp at this; omega
          have hy1 : w.heap.size < w1.heap.size := by omega
          clear hb1
          go_wp2_with fail
          refine (hTt _).mono ?_
          rintro e w2 ⟨rfl, rfl⟩
          go_wp2_with fail
          refine (hIt _).mono ?_
          rintro e w2 ⟨rfl, hb2⟩
          have HB2 := Lib.hid (HB1.out.trans (hb2.mono HB1.out.size))
          obtain ⟨hc2, hf2⟩ := bcell hb2
          have hz2 : w.heap.size + 1 < w2.heap.size := by have := hb2.size; omega
          have hy2 : w.heap.size < w2.heap.size := by omega
          clear hb2
          go_wp2_with fail
          refine (hWt _).mono ?_
          rintro e w3 ⟨rfl, rfl⟩
          go_wp2_with fail
          refine (mIll_any 8 _).mono ?_
          rintro e w4 ⟨rfl, hb4⟩
          have HB4 := Lib.hid (HB2.out.trans (hb4.mono HB2.out.size))
          obtain ⟨hc4, hf4⟩ := bcell hb4
          clear hb4
          go_wp2
          refine bodyPost_ret (v := .agg #[.int .i64 0, .slice none 0 0, .int .i64 8]) (by simp [results, Try.results70, go_sem, hc4, hc1, hc2, hz1, hz2]) rfl ?_
          have hok : fillOk side l tile = true := by simp [fillOk, HR.out, ht']
          have hfi : fillIn side x y wd ht = false := by simp [fillIn, hiw]
          simp only [fillSide, fillTiles, fillCode, hok, hfi, Bool.and_false, if_true]
          exact ⟨none, 0, rfl, OwnI.nil _ _ _ _, ((HB4.out.setCell (by simp) _).setCell (by simp) _).setCell (by simp) _⟩
        · cases hih : inIs ht 1 (side - y)
          · have HR := Lib.hid hr
            have hRt := fun w h => mRight_any side A c l w h hl
            rw [hr] at hRt
            have hTt := mTile_any tile
            rw [ht'] at hTt
            have hs := (right_parts hr).1
            have hIt := fun w => mIn_any side x y A l.length c w hs
            rw [hin] at hIt
            have hgi := gridIn_iff.1 hin
            have hsb := side_bound hs
            have e1 : IntKind.i64.wrap (side - x) = side - x := IntWalk.i64_in _ (by omega)
            have hWt := mIs_any wd 1 (side - x)
            rw [hiw] at hWt
            have e2 : IntKind.i64.wrap (side - y) = side - y := IntWalk.i64_in _ (by omega)
            have hHt := mIs_any ht 1 (side - y)
            rw [hih] at hHt
            go_enter Try.func70, Try.ntmps70
            go_wp2_with fail
            refine (hRt _ ((H.out.below hbw).mono (by simp; omega))).mono ?_
            rintro e w1 ⟨rfl, hb1⟩
            have HB1 := Lib.hid (hbw.trans (hb1.mono (by simp; omega)))
            obtain ⟨hc1, hf1⟩ := bcell hb1
            have hz1 : w.heap.size + 1 < w1.heap.size := by have := hb1.size; simp at this; omega
            have hy1 : w.heap.size < w1.heap.size := by omega
            clear hb1
            go_wp2_with fail
            refine (hTt _).mono ?_
            rintro e w2 ⟨rfl, rfl⟩
            go_wp2_with fail
            refine (hIt _).mono ?_
            rintro e w2 ⟨rfl, hb2⟩
            have HB2 := Lib.hid (HB1.out.trans (hb2.mono HB1.out.size))
            obtain ⟨hc2, hf2⟩ := bcell hb2
            have hz2 : w.heap.size + 1 < w2.heap.size := by have := hb2.size; omega
            have hy2 : w.heap.size < w2.heap.size := by omega
            clear hb2
            go_wp2_with fail
            refine (hWt _).mono ?_
            rintro e w3 ⟨rfl, rfl⟩
            go_wp2_with fail
            refine (hHt _).mono ?_
            rintro e w3 ⟨rfl, rfl⟩
            go_wp2_with fail
            refine (mIll_any 8 _).mono ?_
            rintro e w4 ⟨rfl, hb4⟩
            have HB4 := Lib.hid (HB2.out.trans (hb4.mono HB2.out.size))
            obtain ⟨hc4, hf4⟩ := bcell hb4
            clear hb4
            go_wp2
            refine bodyPost_ret (v := .agg #[.int .i64 0, .slice none 0 0, .int .i64 8]) (by simp [results, Try.results70, go_sem, hc4, hc1, hc2, hz1, hz2]) rfl ?_
            have hok : fillOk side l tile = true := by simp [fillOk, HR.out, ht']
            have hfi : fillIn side x y wd ht = false := by simp [fillIn, hih]
            simp only [fillSide, fillTiles, fillCode, hok, hfi, Bool.and_false, if_true]
            exact ⟨none, 0, rfl, OwnI.nil _ _ _ _, ((HB4.out.setCell (by simp) _).setCell (by simp) _).setCell (by simp) _⟩
          · have HR := Lib.hid hr
            have hs := (right_parts hr).1
            have hRt := fun w h => mRight_any side A c l w h hl
            have hTt := mTile_any tile
            have hIt := fun w => mIn_any side x y A l.length c w hs
            have hWt := mIs_any wd 1 (side - x)
            have hHt := mIs_any ht 1 (side - y)
            rw [hr] at hRt
            rw [ht'] at hTt
            rw [hin] at hIt
            rw [hiw] at hWt
            rw [hih] at hHt
            have hb := fillIn_iff.1 (show fillIn side x y wd ht = true by simp [fillIn, hin, hiw, hih])
            have hsb := side_bound hs
            have e1 : IntKind.i64.wrap (side - x) = side - x := IntWalk.i64_in _ (by omega)
            have e2 : IntKind.i64.wrap (side - y) = side - y := IntWalk.i64_in _ (by omega)
            have e3 : IntKind.i64.wrap (x + wd) = x + wd := IntWalk.i64_in _ (by omega)
            have e4 : IntKind.i64.wrap (y + ht) = y + ht := IntWalk.i64_in _ (by omega)
            go_enter Try.func70, Try.ntmps70
            go_wp2_with fail
            refine (hRt _ ((H.out.below hbw).mono (by simp; omega))).mono ?_
            rintro e w1 ⟨rfl, hb1⟩
            have HB1 := Lib.hid (hbw.trans (hb1.mono (by simp; omega)))
            simp only [alloc_size] at hb1
            have HD1 := Lib.hid hb1
            obtain ⟨hc1, hf1⟩ := bcell hb1
            have hz1 : w.heap.size + 1 < w1.heap.size := by have := hb1.size; simp at this; omega
            have hy1 : w.heap.size < w1.heap.size := by omega
            clear hb1
            go_wp2_with fail
            refine (hTt _).mono ?_
            rintro e w2 ⟨rfl, rfl⟩
            go_wp2_with fail
            refine (hIt _).mono ?_
            rintro e w2 ⟨rfl, hb2⟩
            have HB2 := Lib.hid (HB1.out.trans (hb2.mono HB1.out.size))
            have HD2 := Lib.hid (HD1.out.trans (hb2.mono (by omega)))
            obtain ⟨hc2, hf2⟩ := bcell hb2
            have hz2 : w.heap.size + 1 < w2.heap.size := by have := hb2.size; omega
            have hy2 : w.heap.size < w2.heap.size := by omega
            clear hb2
            go_wp2_with fail
            refine (hWt _).mono ?_
            rintro e w3 ⟨rfl, rfl⟩
            go_wp2_with fail
            refine (hHt _).mono ?_
            rintro e w3 ⟨rfl, rfl⟩
            go_wp2_with fail
            have h64 := right_len HR.out
            have hl0 : 0 < l.length := by
              have := (right_parts HR.out).2.1
              rcases (sideOk_iff side).1 hs with rfl | rfl | rfl | rfl <;> omega
            refine (mCopy_any side A c l _ ((H.out.below HB2.out).mono HB2.out.size) hl hl0).mono ?_
            rintro e w3 ⟨A', c', rfl, hown, hb3⟩
            have HB3 := Lib.hid (HB2.out.trans (hb3.mono HB2.out.size))
            have HC := Lib.hid (And.intro (HD2.out.trans (hb3.mono (by omega))) trivial)
            have HO := Lib.hid hown
            obtain ⟨hc3, hf3⟩ := bcell hb3
            have hz3 : w.heap.size + 1 < w3.heap.size := by have := hb3.size; omega
            have hy3 : w.heap.size < w3.heap.size := by omega
            clear hb3 hown
            obtain ⟨g, rfl, hgb, hgl, _⟩ := HO.out.at_ hl0
            have HI : Hid (FillInv w side A l.length c w2.heap.size w3.heap.size g c' (w3.alloc (.cells #[.int .i64 side, .slice (some ⟨g, 0, none⟩) l.length c'] 25)) l) := by
              refine ⟨?_, ?_, GB.made _ _ _ _, HO.out.alloc _, HB3.out.alloc (by omega) _, hz2, hgb, hgl, by simp⟩
              · exact (((by simpa using (GB.made w side (.slice A l.length c) 25).below ((Below.refl _ _).alloc (B := w.heap.size + 1) (by simp) (.cells #[.int .i64 0, .slice none 0 0, .int .i64 0] 94)) (by omega) : GB ((w.alloc (.cells #[.int .i64 side, .slice A l.length c] 25)).alloc (.cells #[.int .i64 0, .slice none 0 0, .int .i64 0] 94)) w.heap.size side (.slice A l.length c)).below HC.out.1 (by omega)).below ((Below.refl _ _).alloc hz3 _) (by omega))
              · exact ((by simpa using GO.made (w.alloc (.cells #[.int .i64 side, .slice A l.length c] 25)) 94 : GO ((w.alloc (.cells #[.int .i64 side, .slice A l.length c] 25)).alloc (.cells #[.int .i64 0, .slice none 0 0, .int .i64 0] 94)) (w.heap.size + 1)).below HC.out.1 (by omega)).below ((Below.refl _ _).alloc hz3 _) (by omega)
            go_wp2
            go_loopw [14] (fun j14 wr => ∃ j : Int, j14 = .int .i64 j ∧ y ≤ j ∧ j ≤ y + ht ∧ FillInv w side A l.length c w2.heap.size w3.heap.size g c' wr (paint (inRect side x y wd (j - y)) tile l)) (fun j _ => (y + ht - intOf j).toNat)
            case atStart => exact ⟨y, rfl, by omega, by omega, by rw [Int.sub_self, rect_none, paint_none]; exact HI.out⟩
            case round =>
              obtain ⟨j, rfl, hj0, hj1, hinv⟩ := hrel
              by_cases hlt : j < y + ht
              · have HV := Lib.hid hinv
                clear hinv
                go_wp2
                go_loopw [15] (fun i15 ws => ∃ i : Int, i15 = .int .i64 i ∧ x ≤ i ∧ i ≤ x + wd ∧ FillInv w side A l.length c w2.heap.size w3.heap.size g c' ws (paint (fun q => inRect side x y wd (j - y) q || inRow side x j (i - x) q) tile l)) (fun i _ => (x + wd - intOf i).toNat)
                case atStart => exact ⟨x, rfl, by omega, by omega, by rw [Int.sub_self, row_none]; simpa using HV.out⟩
                case round =>
                  obtain ⟨i, rfl, hi0, hi1, hinv⟩ := hrel
                  by_cases hlti : i < x + wd
                  · obtain ⟨n, hn, hnl, hw1, hw2⟩ := place_bound (x := i) (y := j) HR.out (gridIn_iff.2 ⟨by omega, by omega, by omega, by omega⟩)
                    rw [hn] at hw2
                    have HN := Lib.hid hn
                    obtain ⟨p0, p1, q0, q1⟩ := hinv.cpy
                    obtain ⟨i0, i1, _, _⟩ := hinv.inn
                    obtain ⟨g', eg, _, _, hcg, hfg⟩ := hinv.own.at_ (j := n) (by rw [paint_length]; exact hnl)
                    cases eg
                    have HV2 := Lib.hid (hinv.store n tile)
                    clear hinv
                    go_wp2
                    go_roundw
                    case rel =>
                      refine ⟨i + 1, by go_num, by omega, by omega, ?_⟩
                      have := HV2.out
                      rw [paint_set] at this
                      have er := row_step hs hb.1 hi0 (by omega) HN.out
                      have ep : (fun q => (inRect side x y wd (j - y) q || inRow side x j (i - x) q) || q == n) = fun q => inRect side x y wd (j - y) q || inRow side x j (i + 1 - x) q := by
                        funext q
                        rw [Bool.or_assoc, ← er]
                      rw [ep] at this
                      exact this
                    case measure => simp [intOf]; omega
                  · have HV2 := Lib.hid hinv
                    clear hinv
                    go_wp2
                    go_roundw
                    case rel =>
                      refine ⟨j + 1, by go_num, by omega, by omega, ?_⟩
                      have ei : i = x + wd := by omega
                      have := HV2.out
                      rw [ei, show x + wd - x = wd by omega, rect_step hj0] at this
                      exact this
                    case measure => simp [intOf]; omega
              · obtain ⟨r0, r1, r2, s0, s1, s2⟩ := hinv.res
                obtain ⟨p0, p1, q0, q1⟩ := hinv.cpy
                have HV := Lib.hid hinv
                have ej : j = y + ht := by omega
                subst ej
                clear hinv
                go_wp2
                refine bodyPost_ret (v := .agg #[.int .i64 side, .slice (some ⟨g, 0, none⟩) l.length c', .int .i64 0]) (by simp [results, Try.results70, go_sem, r0, r1, r2]) rfl ?_
                have hok : fillOk side l tile = true := by simp [fillOk, HR.out, ht']
                have hfi : fillIn side x y wd ht = true := by simp [fillIn, hin, hiw, hih]
                have hsz := HV.out.siz
                have hown := HV.out.own
                rw [show y + ht - y = ht by omega] at hown
                simp only [fillSide, fillTiles, fillCode, hok, hfi, Bool.and_self, if_true]
                refine ⟨some ⟨g, 0, none⟩, c', ?_, ?_, ?_⟩
                · rw [fillL, paint_length]
                · rw [fillL, paint_length]
                  exact OwnI.lower (base := w2.heap.size) (by omega) (OwnI.set_below (by show w.heap.size + 1 < _; omega) _ (OwnI.set_below (by show w.heap.size + 1 < _; omega) _ (OwnI.set_below (by show w.heap.size + 1 < _; omega) _ hown)))
                · exact ((HV.out.bel.setCell (by simp) _).setCell (by simp) _).setCell (by simp) _
end Go.Proofs.Ytmjbefjkkncjlaa
