/- What the laws on maps draw: a map a little later. -/
import Derived.Test.YthhadbojepcdjaaDrT
namespace Go.Proofs.Ythhadbojepcdjaa
open Go.RowKit

theorem fill_right {side : Int} {l : List Int} {t : Int} (p : Nat → Bool) (hr : gridRight side l = true) (ht : tileOk t = true) : gridRight side (paint p t l) = true := by
  simp only [gridRight, Bool.and_eq_true, beq_iff_eq, List.all_eq_true] at hr ⊢
  refine ⟨⟨hr.1.1, by rw [paint_length]; exact hr.1.2⟩, fun x hx => ?_⟩
  obtain ⟨q, hq, rfl⟩ := List.getElem_of_mem hx
  rw [paint_get]
  split
  · exact ht
  · exact hr.2 _ (List.getElem_mem _)

/-- What holds while a map is drawn on: it stands in its box, the tiles are owned, the source is one. -/
structure LX (w : World) (g base : Nat) (side : Int) (A : Option Addr) (c : Nat) (l : List Int) (wr : World) : Prop where
  inn : GB wr w.heap.size side (.slice A l.length c)
  res : GB wr (w.heap.size + 1) 0 (.slice none 0 0)
  own : OwnI 2 .i64 wr base (.slice A l.length c) l
  drw : Drew w g wr
  siz : g < base ∧ base ≤ w.heap.size ∧ w.heap.size + 1 < wr.heap.size
  apt : ∀ k, (Value.slice A l.length c).ownBlock = some k → k ≠ w.heap.size ∧ k ≠ w.heap.size + 1
theorem GB.drewn {w w' : World} {g b : Nat} {side : Int} {v : Value} (h : GB w b side v) (hd : Drew w g w') (hg : b ≠ g) (hb : b < w.heap.size) : GB w' b side v := by
  have e := hd.2.block b hb (fun e => hg (Option.some.inj e))
  exact ⟨(World.cell?_of_block (w := w) (a := ⟨b, 0, none⟩) e).trans h.c0, (World.cell?_of_block (w := w) (a := ⟨b, 1, none⟩) e).trans h.c1, (World.frozen?_of_block (w := w) (a := ⟨b, 0, none⟩) e).trans h.f0, (World.frozen?_of_block (w := w) (a := ⟨b, 1, none⟩) e).trans h.f1⟩
theorem LX.drew {w wr wr' : World} {g base : Nat} {side : Int} {A : Option Addr} {c : Nat} {l : List Int} (h : LX w g base side A c l wr) (hd : Drew wr g wr') : LX w g base side A c l wr' := by
  obtain ⟨h1, h2, h3⟩ := h.siz
  exact ⟨h.inn.drewn hd (by omega) (by omega), h.res.drewn hd (by omega) (by omega), h.own.drewn hd h1, h.drw.trans hd, ⟨h1, h2, Nat.lt_of_lt_of_le h3 hd.2.size⟩, h.apt⟩
theorem LX.below {w wr wr' : World} {g base : Nat} {side : Int} {A : Option Addr} {c : Nat} {l : List Int} (h : LX w g base side A c l wr) (hb : Below wr.heap.size wr wr') : LX w g base side A c l wr' := by
  obtain ⟨h1, h2, h3⟩ := h.siz
  exact ⟨h.inn.below hb (by omega), h.res.below hb (by omega), h.own.keep hb, h.drw.more (by omega) (hb.mono (by omega)), ⟨h1, h2, Nat.lt_of_lt_of_le h3 hb.size⟩, h.apt⟩
theorem LX.tape {w wr : World} {g base : Nat} {side : Int} {A : Option Addr} {c : Nat} {l : List Int} (h : LX w g base side A c l wr) : LX w g base side A c l wr.drew := h.below (Below.refl _ _).drew
/-- The same, and block o is the box of a map that is to come, with the fields a, v, b. -/
structure LZ (w : World) (g base : Nat) (side : Int) (A : Option Addr) (c : Nat) (l : List Int) (o : Nat) (a : Int) (v : Value) (b : Int) (wr : World) : Prop where
  lx : LX w g base side A c l wr
  c0 : wr.cell? ⟨o, 0, none⟩ = some (.int .i64 a)
  c1 : wr.cell? ⟨o, 1, none⟩ = some v
  c2 : wr.cell? ⟨o, 2, none⟩ = some (.int .i64 b)
  f0 : wr.frozen? ⟨o, 0, none⟩ = false
  f1 : wr.frozen? ⟨o, 1, none⟩ = false
  f2 : wr.frozen? ⟨o, 2, none⟩ = false
  far : w.heap.size + 1 < o ∧ o < wr.heap.size
  low : ∀ b, (Value.slice A l.length c).ownBlock = some b → b < o
section
variable {w wr wr' : World} {g base o c : Nat} {side a b : Int} {A : Option Addr} {l : List Int} {v : Value}
theorem LX.alloc (h : LX w g base side A c l wr) (a b : Int) (v : Value) : LZ w g base side A c l wr.heap.size a v b (wr.alloc (.cells #[.int .i64 a, v, .int .i64 b] 37)) :=
  ⟨h.below ((Below.refl _ _).alloc (Nat.le_refl _) _), by simp [go_sem], by simp [go_sem], by simp [go_sem], by simp [go_sem], by simp [go_sem], by simp [go_sem], ⟨h.siz.2.2, by simp⟩, fun b hb => (World.ownsRow.lt h.own b hb).2⟩
theorem LZ.drew (h : LZ w g base side A c l o a v b wr) (hd : Drew wr g wr') : LZ w g base side A c l o a v b wr' := by
  obtain ⟨h1, h2, h3⟩ := h.lx.siz
  obtain ⟨h4, h5⟩ := h.far
  have e := hd.2.block o h5 (fun e => by have := Option.some.inj e; omega)
  exact ⟨h.lx.drew hd, (World.cell?_of_block (w := wr) (a := ⟨o, 0, none⟩) e).trans h.c0, (World.cell?_of_block (w := wr) (a := ⟨o, 1, none⟩) e).trans h.c1, (World.cell?_of_block (w := wr) (a := ⟨o, 2, none⟩) e).trans h.c2, (World.frozen?_of_block (w := wr) (a := ⟨o, 0, none⟩) e).trans h.f0, (World.frozen?_of_block (w := wr) (a := ⟨o, 1, none⟩) e).trans h.f1, (World.frozen?_of_block (w := wr) (a := ⟨o, 2, none⟩) e).trans h.f2, ⟨h4, Nat.lt_of_lt_of_le h5 hd.2.size⟩, h.low⟩
theorem LZ.below (h : LZ w g base side A c l o a v b wr) (hb : Below wr.heap.size wr wr') : LZ w g base side A c l o a v b wr' := by
  obtain ⟨h4, h5⟩ := h.far
  exact ⟨h.lx.below hb, (hb.cell (p := ⟨o, 0, none⟩) h5).trans h.c0, (hb.cell (p := ⟨o, 1, none⟩) h5).trans h.c1, (hb.cell (p := ⟨o, 2, none⟩) h5).trans h.c2, (hb.frozen (p := ⟨o, 0, none⟩) h5).trans h.f0, (hb.frozen (p := ⟨o, 1, none⟩) h5).trans h.f1, (hb.frozen (p := ⟨o, 2, none⟩) h5).trans h.f2, ⟨h4, Nat.lt_of_lt_of_le h5 hb.size⟩, h.low⟩
theorem OwnI.other {e : TypeId} {k : IntKind} {ad : Addr} (h : OwnI e k wr base v l) (hb : ∀ b, v.ownBlock = some b → b ≠ ad.block) (u : Value) : OwnI e k (wr.setCell ad u) base v l := by
  refine ⟨h.1, ?_⟩
  rcases h.2 with h' | ⟨g', cap, cur, hv, hbg, hg, rest⟩
  · exact .inl h'
  · refine .inr ⟨g', cap, cur, hv, hbg, ?_, rest⟩
    rw [Below.heap_setCell _ _ _ _ (hb g' (by rw [hv]; rfl))]
    exact hg
theorem LX.far {ad : Addr} (h : LX w g base side A c l wr) (hl : ∀ b, (Value.slice A l.length c).ownBlock = some b → b ≠ ad.block) (ho : w.heap.size + 1 < ad.block) (u : Value) : LX w g base side A c l (wr.setCell ad u) := by
  obtain ⟨h1, h2, h3⟩ := h.siz
  refine ⟨h.inn.far (by omega) _, h.res.far (by omega) _, h.own.other hl u, ?_, ⟨h1, h2, by simpa [World.setCell] using h3⟩, h.apt⟩
  exact h.drw.more (by omega) ((Below.refl _ _).setCell (by omega) _)
theorem LZ.put (h : LZ w g base side A c l o a v b wr) (a' b' : Int) (v' : Value) : LZ w g base side A c l o a' v' b' (((wr.setCell ⟨o, 0, none⟩ (.int .i64 a')).setCell ⟨o, 1, none⟩ v').setCell ⟨o, 2, none⟩ (.int .i64 b')) := by
  obtain ⟨h4, h5⟩ := h.far
  have hl : ∀ b, (Value.slice A l.length c).ownBlock = some b → b ≠ o := fun b hb => Nat.ne_of_lt (h.low b hb)
  refine ⟨((h.lx.far hl h4 _).far hl h4 _).far hl h4 _, ?_, ?_, ?_, by simpa using h.f0, by simpa using h.f1, by simpa using h.f2, ⟨h4, by simpa [World.setCell] using h5⟩, h.low⟩
  · rw [World.cell?_setCell_other _ _ _ _ (by simp), World.cell?_setCell_other _ _ _ _ (by simp)]
    exact World.cell?_setCell_same _ _ _ h.c0
  · rw [World.cell?_setCell_other _ _ _ _ (by simp)]
    exact World.cell?_setCell_same _ _ _ ((World.cell?_setCell_other _ _ _ _ (by simp)).trans h.c1)
  · exact World.cell?_setCell_same _ _ _ (((World.cell?_setCell_other _ _ _ _ (by simp))).trans ((World.cell?_setCell_other _ _ _ _ (by simp)).trans h.c2))
end
end Go.Proofs.Ythhadbojepcdjaa
