/- The model's ways: Dists, Dist. -/
import Derived.Test.YtmjbefjkkncjlaaWyD
namespace Go.Proofs.Ytmjbefjkkncjlaa
open Go.RowKit
set_option linter.unusedVariables false
set_option linter.unusedSimpArgs false

/-- The boxes of a map and a place. -/
structure B2 (w : World) (side : Int) (A : Option Addr) (c : Nat) (l : List Int) (x y : Int) (wr : World) : Prop where
  g : GB wr w.heap.size side (.slice A l.length c)
  f : PlB wr (w.heap.size + 1) x y
  bel : Below w.heap.size w wr
  siz : w.heap.size + 1 < wr.heap.size
theorem B2.below {w wr wr' : World} {side : Int} {A : Option Addr} {c : Nat} {l : List Int} {x y : Int} (h : B2 w side A c l x y wr) (hb : Below wr.heap.size wr wr') : B2 w side A c l x y wr' := by
  have hz := h.siz
  exact ⟨h.g.below hb (by omega), h.f.below hb hz, h.bel.trans (hb.mono (by omega)), Nat.lt_of_lt_of_le hz hb.size⟩
theorem B2.made (w : World) (side : Int) (A : Option Addr) (c : Nat) (l : List Int) (x y : Int) : B2 w side A c l x y ((w.alloc (.cells #[.int .i64 side, .slice A l.length c] 25)).alloc (.cells #[.int .i64 x, .int .i64 y] 27)) :=
  ⟨⟨by simp [go_sem], by simp [go_sem], by simp [go_sem], by simp [go_sem]⟩, ⟨by simp [go_sem], by simp [go_sem]⟩, bel_T (bel_A _ _) (bel_A _ _), by simp⟩
/-- An answer of numbers. -/
def NOut (w w' : World) (l : List Int) (e : Ending) : Prop := ∃ A c, e = .returned (.slice A l.length c) ∧ OwnI 2 .i64 w' w.heap.size (.slice A l.length c) l ∧ Below w.heap.size w w'

set_option maxRecDepth 100000 in
set_option maxHeartbeats 1000000 in
theorem mDists_any (side fx fy : Int) (A : Option Addr) (c : Nat) (l : List Int) (d0 : List Int) (w : World) (h : RI w w.heap.size A l) (hl : l.length ≤ 1000000000) (hd : (gridRight side l && opn side l fx fy) = true → GDist side l fx fy d0) :
    Calls Try.prog 13 #[.agg #[.int .i64 side, .slice A l.length c], .agg #[.int .i64 fx, .int .i64 fy]] w fun e w' => NOut w w' (dOut side l fx fy d0) e := by
  have HB := Lib.hid (B2.made w side A c l fx fy)
  have H := Lib.hid h
  have hR := fun w h => mRight_any side A c l w h hl
  have HLIT : Hid (∀ wr, B2 w side A c l fx fy wr → NOut w (wr.alloc (.cells #[] 2)) [] (.returned (.slice (some ⟨wr.heap.size, 0, none⟩) 0 0))) := by
    intro wr hb
    have := OwnI.lit (e := 2) (k := .i64) (w := wr) (base := w.heap.size) [] hb.bel.size (by simp)
    exact ⟨some ⟨wr.heap.size, 0, none⟩, 0, rfl, by simpa using this, hb.bel.alloc hb.bel.size _⟩
  clear h hl
  cases hr : gridRight side l
  · have HE : Hid (dOut side l fx fy d0 = []) := by show _ = _; simp [dOut, hr]
    rw [HE.out]
    rw [hr] at hR
    clear hr hd
    go_enter Try.func13, Try.ntmps13
    go_wp2_with fail
    refine (hR _ ((H.out.below HB.out.bel).mono HB.out.bel.size)).mono ?_
    rintro e w1 ⟨rfl, hb1⟩
    have HB1 := Lib.hid (HB.out.below hb1)
    clear hb1
    go_wp2
    go_ret
    exact HLIT.out _ HB1.out
  · have hOp := fun w h => mOpen5_any side fx fy A c l w h hr
    have HR := Lib.hid hr
    cases ho : opn side l fx fy
    · have HE : Hid (dOut side l fx fy d0 = []) := by show _ = _; simp [dOut, ho]
      rw [HE.out]
      rw [hr] at hR
      rw [ho] at hOp
      clear hr hd ho
      go_enter Try.func13, Try.ntmps13
      go_wp2_with fail
      refine (hR _ ((H.out.below HB.out.bel).mono HB.out.bel.size)).mono ?_
      rintro e w1 ⟨rfl, hb1⟩
      have HB1 := Lib.hid (HB.out.below hb1)
      clear hb1 HB
      obtain ⟨g0, g1, _, _⟩ := HB1.out.g
      obtain ⟨f0, f1⟩ := HB1.out.f
      go_wp2_with fail
      refine (hOp _ ((H.out.below HB1.out.bel).mono HB1.out.bel.size)).mono ?_
      rintro e w2 ⟨rfl, hb2⟩
      have HB2 := Lib.hid (HB1.out.below hb2)
      clear hb2 HB1 g0 g1 f0 f1
      go_wp2
      go_ret
      exact HLIT.out _ HB2.out
    · have HE : Hid (dOut side l fx fy d0 = d0) := by show _ = _; simp [dOut, hr, ho]
      rw [HE.out]
      have hD := fun w h => mL05Dists_any side fx fy A c l d0 w h hr ho (hd (by simp [hr, ho]))
      rw [hr] at hR
      rw [ho] at hOp
      clear hr hd ho
      go_enter Try.func13, Try.ntmps13
      go_wp2_with fail
      refine (hR _ ((H.out.below HB.out.bel).mono HB.out.bel.size)).mono ?_
      rintro e w1 ⟨rfl, hb1⟩
      have HB1 := Lib.hid (HB.out.below hb1)
      clear hb1 HB
      obtain ⟨g0, g1, _, _⟩ := HB1.out.g
      obtain ⟨f0, f1⟩ := HB1.out.f
      go_wp2_with fail
      refine (hOp _ ((H.out.below HB1.out.bel).mono HB1.out.bel.size)).mono ?_
      rintro e w2 ⟨rfl, hb2⟩
      have HB2 := Lib.hid (HB1.out.below hb2)
      clear hb2 HB1 g0 g1 f0 f1
      obtain ⟨g0, g1, _, _⟩ := HB2.out.g
      obtain ⟨f0, f1⟩ := HB2.out.f
      go_wp2_with fail
      refine (hD _ ((H.out.below HB2.out.bel).mono HB2.out.bel.size)).mono ?_
      rintro e w3 ⟨A3, c3, rfl, o3, hb3⟩
      have HB3 := Lib.hid (HB2.out.below hb3)
      have HO3 := Lib.hid (OwnI.lower (base' := w.heap.size) HB2.out.bel.size o3)
      clear hb3 o3 g0 g1 f0 f1 HB2
      go_wp2
      go_ret
      exact ⟨A3, c3, rfl, HO3.out, HB3.out.bel⟩
end Go.Proofs.Ytmjbefjkkncjlaa
