/- The program's maps: what is filled. -/
import Derived.Test.YtoobkajilbmdhaaPgT
import Derived.Test.YtoobkajilbmdhaaGWalkF
import Derived.Deep.RegionHeld3
import Derived.Lib.SliceRun
namespace Go.Proofs.Ytoobkajilbmdhaa
open Go.RowKit

theorem spanIn_fill (side x y wd ht : Int) : fillIn side x y wd ht = (spanIn side x wd && spanIn side y ht) := by
  rw [Bool.eq_iff_iff, fillIn_iff]
  simp only [spanIn, Bool.and_eq_true, decide_eq_true_eq]
  omega


/-- The map that came in and the one that is to be handed back stand in their boxes. -/
structure FB (w : World) (side : Int) (v : Value) (wr : World) : Prop where
  inn : GB wr w.heap.size side v
  res : GO wr (w.heap.size + 1)
  bel : Below w.heap.size w wr
  siz : w.heap.size + 1 < wr.heap.size
theorem FB.below {w : World} {side : Int} {v : Value} {wr wr' : World} (h : FB w side v wr) (hb : Below wr.heap.size wr wr') : FB w side v wr' :=
  ⟨h.inn.below hb (by have := h.siz; omega), h.res.below hb h.siz, h.bel.trans (hb.mono h.bel.size), Nat.lt_of_lt_of_le h.siz hb.size⟩
theorem FB.made (w : World) (side : Int) (v : Value) : FB w side v ((w.alloc (.cells #[.int .i64 side, v] 37)).alloc (.cells #[.int .i64 0, .slice none 0 0, .int .i64 0] 39)) := by
  refine ⟨(GB.made w side v 37).below ((Below.refl _ _).alloc (B := w.heap.size + 1) (by simp) _) (by omega), ?_, ((Below.refl _ _).alloc (Nat.le_refl _) _).alloc (by simp) _, by simp⟩
  have := GO.made (w.alloc (.cells #[.int .i64 side, v] 37)) 39
  rw [alloc_size] at this
  exact this

/-- What holds while it is filled: beside FB, the copy in block o, whose tiles lie in block g. -/
structure PF (w : World) (side : Int) (v : Value) (n o g c' : Nat) (wr : World) (l : List Int) : Prop where
  inn : GB wr w.heap.size side v
  res : GO wr (w.heap.size + 1)
  cpy : GB wr o side (.slice (some ⟨g, 0, none⟩) n c')
  own : OwnI 2 .i64 wr (w.heap.size + 1 + 1) (.slice (some ⟨g, 0, none⟩) n c') l
  bel : Below w.heap.size w wr
  siz : w.heap.size + 1 < o ∧ w.heap.size + 1 < g ∧ g ≠ o ∧ o < wr.heap.size
theorem PF.store {w : World} {side : Int} {v : Value} {n o g c' : Nat} {wr : World} {l : List Int} (h : PF w side v n o g c' wr l) (j : Nat) (t : Int) : PF w side v n o g c' (wr.setCell ⟨g, j, none⟩ (.int .i64 t)) (l.set j t) := by
  obtain ⟨h1, h2, h3, h4⟩ := h.siz
  exact ⟨h.inn.far (by show g ≠ _; omega) _, h.res.far (by show g ≠ _; omega) _, h.cpy.far (by show g ≠ _; omega) _, (h.own.store t).1, h.bel.setCell (by show w.heap.size ≤ g; omega) _, h1, h2, h3, by simpa [World.setCell] using h4⟩
theorem PF.below {w : World} {side : Int} {v : Value} {n o g c' : Nat} {wr wr' : World} {l : List Int} (h : PF w side v n o g c' wr l) (hb : Below wr.heap.size wr wr') : PF w side v n o g c' wr' l := by
  obtain ⟨h1, h2, h3, h4⟩ := h.siz
  exact ⟨h.inn.below hb (by omega), h.res.below hb (by omega), h.cpy.below hb h4, h.own.keep hb, h.bel.trans (hb.mono h.bel.size), h1, h2, h3, Nat.lt_of_lt_of_le h4 hb.size⟩
theorem PF.after {w w1 w6 : World} {side : Int} {v : Value} {n g c' : Nat} {l : List Int} (h : FB w side v w1) (ho : OwnI 2 .i64 w6 w1.heap.size (.slice (some ⟨g, 0, none⟩) n c') l) (hb : Below w1.heap.size w1.drew w6) :
    PF w side v n w6.heap.size g c' (w6.alloc (.cells #[.int .i64 side, .slice (some ⟨g, 0, none⟩) n c'] 37)) l := by
  have hf := h.below ((Below.refl _ _).drew.trans hb)
  have hg := World.ownsRow.lt ho g rfl
  have ha : Below w6.heap.size w6 (w6.alloc (.cells #[.int .i64 side, .slice (some ⟨g, 0, none⟩) n c'] 37)) := (Below.refl _ _).alloc (Nat.le_refl _) _
  have hz := h.siz
  have hz6 := hf.siz
  exact ⟨hf.inn.below ha (by omega), hf.res.below ha (by omega), GB.made _ _ _ _, OwnI.lower (by omega) (ho.alloc _), hf.bel.trans (ha.mono hf.bel.size), by omega, by omega, by omega, by simp⟩
theorem PF.ahead {w w1 w6 : World} {side : Int} {v : Value} {n g c' : Nat} {l : List Int} (h : FB w side v w1) (ho : OwnI 2 .i64 w6 (w1.heap.size + 1) (.slice (some ⟨g, 0, none⟩) n c') l) (hb : Below (w1.heap.size + 1) (w1.alloc (.cells #[.int .i64 0, .slice none 0 0] 37)).drew w6) :
    PF w side v n w1.heap.size g c' ((w6.setCell ⟨w1.heap.size, 0, none⟩ (.int .i64 side)).setCell ⟨w1.heap.size, 1, none⟩ (.slice (some ⟨g, 0, none⟩) n c')) l := by
  have ha : Below w1.heap.size w1 (w1.alloc (.cells #[.int .i64 0, .slice none 0 0] 37)).drew := ((Below.refl _ _).alloc (Nat.le_refl _) _).drew
  have hf := (h.below ha).below (by simpa using hb)
  have hg := World.ownsRow.lt ho g rfl
  have hz := h.siz
  have hn := ((GB.made w1 0 (.slice none 0 0) 37).drew).below hb (by omega)
  have hs : w1.heap.size + 1 ≤ w6.heap.size := by have := hb.size; simpa using this
  refine ⟨(hf.inn.far (by show w1.heap.size ≠ _; omega) _).far (by show w1.heap.size ≠ _; omega) _, (hf.res.far (by show w1.heap.size ≠ _; omega) _).far (by show w1.heap.size ≠ _; omega) _, (hn.set0 side).set1 _, OwnI.lower (base := w1.heap.size + 1) (by omega) (OwnI.set_below (by show w1.heap.size < _; omega) _ (OwnI.set_below (by show w1.heap.size < _; omega) _ ho)), (hf.bel.setCell (by show w.heap.size ≤ w1.heap.size; omega) _).setCell (by show w.heap.size ≤ w1.heap.size; omega) _, hz, by omega, by omega, ?_⟩
  simp [World.setCell]; omega

end Go.Proofs.Ytoobkajilbmdhaa
