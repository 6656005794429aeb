/- What is filled. -/
import Derived.Test.YtoobkajilbmdhaaGridA
namespace Go.Proofs.Ytoobkajilbmdhaa
open Go.RowKit

/-- l with t at the places that p tells. -/
def paint (p : Nat → Bool) (t : Int) (l : List Int) : List Int := l.mapIdx fun q v => if p q then t else v
theorem paint_length (p : Nat → Bool) (t : Int) (l : List Int) : (paint p t l).length = l.length := by simp [paint]
theorem paint_get (p : Nat → Bool) (t : Int) (l : List Int) (q : Nat) (h : q < (paint p t l).length) : (paint p t l)[q] = if p q then t else l[q]'(by simpa [paint] using h) := by simp [paint]
theorem paint_congr {p p' : Nat → Bool} {t : Int} {l : List Int} (h : ∀ q, q < l.length → p q = p' q) : paint p t l = paint p' t l := by
  refine List.ext_getElem (by simp [paint]) fun q h1 h2 => ?_
  rw [paint_get, paint_get, h q (by simpa [paint] using h1)]
theorem paint_none {t : Int} {l : List Int} : paint (fun _ => false) t l = l := by
  refine List.ext_getElem (by simp [paint]) fun q h1 h2 => ?_
  rw [paint_get]; simp
theorem paint_set (p : Nat → Bool) (t : Int) (l : List Int) (k : Nat) : (paint p t l).set k t = paint (fun q => p q || q == k) t l := by
  refine List.ext_getElem (by simp [paint]) fun q h1 h2 => ?_
  rw [List.getElem_set, paint_get]
  by_cases e : k = q
  · subst e; rw [paint_get]; simp
  · rw [if_neg e, paint_get]
    have : (q == k) = false := by simpa using fun h => e h.symm
    simp [this]
def inRect (side x y w h : Int) (q : Nat) : Bool := decide (x ≤ (q : Int) % side ∧ (q : Int) % side < x + w ∧ y ≤ (q : Int) / side ∧ (q : Int) / side < y + h)
def inRow (side x j w : Int) (q : Nat) : Bool := decide (x ≤ (q : Int) % side ∧ (q : Int) % side < x + w ∧ (q : Int) / side = j)
theorem rect_none (side x y w : Int) : inRect side x y w 0 = fun _ => false := by
  funext q; rw [← Bool.not_eq_true]; simp only [inRect, decide_eq_true_eq]; omega
theorem row_none (side x j : Int) : inRow side x j 0 = fun _ => false := by
  funext q; rw [← Bool.not_eq_true]; simp only [inRow, decide_eq_true_eq]; omega
theorem row_step {side x j i : Int} {n : Nat} (hs : sideOk side = true) (hx : 0 ≤ x) (h0 : x ≤ i) (h1 : i < side) (hn : j * side + i = n) : (fun q => inRow side x j (i - x) q || q == n) = inRow side x j (i + 1 - x) := by
  funext q
  rw [Bool.eq_iff_iff]
  simp only [inRow, Bool.or_eq_true, decide_eq_true_eq, beq_iff_eq]
  rcases (sideOk_iff side).1 hs with rfl | rfl | rfl | rfl <;> omega
theorem rect_step {side x y j w : Int} (h0 : y ≤ j) : (fun q => inRect side x y w (j - y) q || inRow side x j w q) = inRect side x y w (j + 1 - y) := by
  funext q
  rw [Bool.eq_iff_iff]
  simp only [inRect, inRow, Bool.or_eq_true, decide_eq_true_eq]
  omega
def fillOk (side : Int) (l : List Int) (tile : Int) : Bool := gridRight side l && tileOk tile
def fillIn (side x y w h : Int) : Bool := gridIn side x y && inIs w 1 (side - x) && inIs h 1 (side - y)
def fillL (side : Int) (l : List Int) (x y w h t : Int) : List Int := paint (inRect side x y w h) t l
def fillSide (side : Int) (l : List Int) (x y w h t : Int) : Int := if fillOk side l t && fillIn side x y w h then side else 0
def fillTiles (side : Int) (l : List Int) (x y w h t : Int) : List Int := if fillOk side l t && fillIn side x y w h then fillL side l x y w h t else []
def fillCode (side : Int) (l : List Int) (x y w h t : Int) : Int := if fillOk side l t then (if fillIn side x y w h then 0 else 8) else 1
theorem fillIn_iff {side x y w h : Int} : fillIn side x y w h = true ↔ 0 ≤ x ∧ 0 ≤ y ∧ 1 ≤ w ∧ 1 ≤ h ∧ x + w ≤ side ∧ y + h ≤ side := by
  simp only [fillIn, Bool.and_eq_true, gridIn_iff, inIs, decide_eq_true_eq]; omega

/-- Block b holds the fields of a map that is to be handed back, still empty. -/
structure GO (w : World) (b : Nat) : Prop where
  c0 : w.cell? ⟨b, 0, none⟩ = some (.int .i64 0)
  c1 : w.cell? ⟨b, 1, none⟩ = some (.slice none 0 0)
  c2 : w.cell? ⟨b, 2, none⟩ = some (.int .i64 0)
  f0 : w.frozen? ⟨b, 0, none⟩ = false
  f1 : w.frozen? ⟨b, 1, none⟩ = false
  f2 : w.frozen? ⟨b, 2, none⟩ = false
theorem GO.below {w w' : World} {b B : Nat} (h : GO w b) (hb : Below B w w') (hB : b < B) : GO w' b :=
  ⟨(hb.cell (p := ⟨b, 0, none⟩) hB).trans h.c0, (hb.cell (p := ⟨b, 1, none⟩) hB).trans h.c1, (hb.cell (p := ⟨b, 2, none⟩) hB).trans h.c2, (hb.frozen (p := ⟨b, 0, none⟩) hB).trans h.f0, (hb.frozen (p := ⟨b, 1, none⟩) hB).trans h.f1, (hb.frozen (p := ⟨b, 2, none⟩) hB).trans h.f2⟩
theorem GO.far {w : World} {b : Nat} (h : GO w b) {p : Addr} (hp : p.block ≠ b) (u : Value) : GO (w.setCell p u) b :=
  ⟨(World.cell?_setCell_other _ _ _ _ (by rintro rfl; exact hp rfl)).trans h.c0, (World.cell?_setCell_other _ _ _ _ (by rintro rfl; exact hp rfl)).trans h.c1, (World.cell?_setCell_other _ _ _ _ (by rintro rfl; exact hp rfl)).trans h.c2, by simpa using h.f0, by simpa using h.f1, by simpa using h.f2⟩
theorem GO.made (w : World) (t : TypeId) : GO (w.alloc (.cells #[.int .i64 0, .slice none 0 0, .int .i64 0] t)) w.heap.size :=
  ⟨by simp [go_sem], by simp [go_sem], by simp [go_sem], by simp [go_sem], by simp [go_sem], by simp [go_sem]⟩

/-- What holds while the model fills: the map that was handed in, the map that is to be handed back, the copy in block o, whose tiles lie in block g. -/
structure FillInv (w : World) (side : Int) (A : Option Addr) (n c : Nat) (B o g c' : Nat) (wr : World) (l : List Int) : Prop where
  inn : GB wr w.heap.size side (.slice A n c)
  res : GO wr (w.heap.size + 1)
  cpy : GB wr o side (.slice (some ⟨g, 0, none⟩) n c')
  own : OwnI 2 .i64 wr B (.slice (some ⟨g, 0, none⟩) n c') l
  bel : Below w.heap.size w wr
  siz : w.heap.size + 1 < B ∧ B ≤ g ∧ g < o ∧ o < wr.heap.size
theorem FillInv.drew {w : World} {side : Int} {A : Option Addr} {n c B o g c' : Nat} {wr : World} {l : List Int} (h : FillInv w side A n c B o g c' wr l) : FillInv w side A n c B o g c' wr.drew l :=
  ⟨⟨h.inn.c0, h.inn.c1, h.inn.f0, h.inn.f1⟩, ⟨h.res.c0, h.res.c1, h.res.c2, h.res.f0, h.res.f1, h.res.f2⟩, ⟨h.cpy.c0, h.cpy.c1, h.cpy.f0, h.cpy.f1⟩, h.own.drew, h.bel.drew, h.siz⟩
theorem FillInv.store {w : World} {side : Int} {A : Option Addr} {n c B o g c' : Nat} {wr : World} {l : List Int} (h : FillInv w side A n c B o g c' wr l) (j : Nat) (t : Int) : FillInv w side A n c B o g c' (wr.setCell ⟨g, j, none⟩ (.int .i64 t)) (l.set j t) := by
  obtain ⟨h1, h2, h3, h4⟩ := h.siz
  exact ⟨h.inn.far (by show g ≠ _; omega) _, h.res.far (by show g ≠ _; omega) _, h.cpy.far (by show g ≠ _; omega) _, (h.own.store t).1, h.bel.setCell (by show w.heap.size ≤ g; omega) _, h1, h2, h3, by simpa [World.setCell] using h4⟩

end Go.Proofs.Ytoobkajilbmdhaa
