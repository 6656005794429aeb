/- Ways as the exact laws hold them: compared, marked, looked at again; an answer in its box, with its row. -/
import Derived.Test.YtmjbefjkkncjlaaWyB
import Derived.Deep.CutRange
import Derived.Deep.RegionHeld3
namespace Go.Proofs.Ytmjbefjkkncjlaa
open Go.RowKit
set_option linter.unusedVariables false

/-- Block q holds the fields of a way that was handed back. -/
structure WB (w : World) (q : Nat) (v : Value) (S C : Int) : Prop where
  c0 : w.cell? ⟨q, 0, none⟩ = some v
  c1 : w.cell? ⟨q, 1, none⟩ = some (.int .i64 S)
  c2 : w.cell? ⟨q, 2, none⟩ = some (.int .i64 C)
  f0 : w.frozen? ⟨q, 0, none⟩ = false
  f1 : w.frozen? ⟨q, 1, none⟩ = false
  f2 : w.frozen? ⟨q, 2, none⟩ = false
theorem WB.made (w : World) (v : Value) (S C : Int) (t : TypeId) : WB (w.alloc (.cells #[v, .int .i64 S, .int .i64 C] t)) w.heap.size v S C := ⟨by simp [go_sem], by simp [go_sem], by simp [go_sem], by simp [go_sem], by simp [go_sem], by simp [go_sem]⟩
theorem WB.made2 (w : World) (v : Value) (S C : Int) (v' : Value) (S' C' : Int) (t : TypeId) : WB ((w.alloc (.cells #[v, .int .i64 S, .int .i64 C] t)).alloc (.cells #[v', .int .i64 S', .int .i64 C'] t)) w.heap.size v S C ∧ WB ((w.alloc (.cells #[v, .int .i64 S, .int .i64 C] t)).alloc (.cells #[v', .int .i64 S', .int .i64 C'] t)) (w.heap.size + 1) v' S' C' :=
  ⟨⟨by simp [go_sem], by simp [go_sem], by simp [go_sem], by simp [go_sem], by simp [go_sem], by simp [go_sem]⟩, ⟨by simp [go_sem], by simp [go_sem], by simp [go_sem], by simp [go_sem], by simp [go_sem], by simp [go_sem]⟩⟩
theorem WB.at_ {w w' : World} {q : Nat} {v : Value} {S C : Int} (h : WB w q v S C) (e : w'.heap[q]? = w.heap[q]?) : WB w' q v S C :=
  ⟨(cell_at e).trans h.c0, (cell_at e).trans h.c1, (cell_at e).trans h.c2, (froz_at e).trans h.f0, (froz_at e).trans h.f1, (froz_at e).trans h.f2⟩
theorem RPl.below' {w w' : World} {A : Option Addr} {l : List Pl} (h : RPl w w.heap.size A l) (hb : Below w.heap.size w w') : RPl w' w'.heap.size A l := (h.below hb).mono hb.size

set_option maxHeartbeats 400000 in
theorem eqWayOut_any (S C : Int) (A A' : Option Addr) (c c' : Nat) (L : List Pl) (w : World) (h : RPl w w.heap.size A L) (h' : RPl w w.heap.size A' L) (hL : L.length ≤ 1000000000) :
    Calls Try.prog 20 #[.agg #[.slice A L.length c, .int .i64 S, .int .i64 C], .agg #[.slice A' L.length c', .int .i64 S, .int .i64 C]] w fun e w' => e = .returned (.bool true) ∧ Below w.heap.size w w' := by
  have H := Lib.hid h
  have H' := Lib.hid h'
  clear h h'
  have hbw : Below w.heap.size w ((w.alloc (.cells #[.slice A L.length c, .int .i64 S, .int .i64 C] 32)).alloc (.cells #[.slice A' L.length c', .int .i64 S, .int .i64 C] 32)) := ((Below.refl _ _).alloc (Nat.le_refl _) _).alloc (by simp) _
  have HB := Lib.hid hbw
  have HX := Lib.hid (WB.made2 w (.slice A L.length c) S C (.slice A' L.length c') S C 32)
  have HT := Lib.hid (eqPls A A' c c' L _ (H.out.below' hbw) (H'.out.below' hbw) hL)
  clear hbw
  go_enter Try.func20, Try.ntmps20
  go_wp2_with fail
  refine HT.out.mono ?_
  rintro e w1 ⟨rfl, hb⟩
  have HB1 := Lib.hid (HB.out.trans (hb.mono HB.out.size))
  have HX1 := Lib.hid (And.intro (HX.out.1.at_ (hb.block _ (by simp; omega))) (HX.out.2.at_ (hb.block _ (by simp))))
  obtain ⟨⟨x0, x1, x2, _, _, _⟩, ⟨y0, y1, y2, _, _, _⟩⟩ := HX1.out
  clear HT hb HX
  go_wp2
  go_ret
  exact ⟨rfl, HB1.out⟩

set_option maxHeartbeats 400000 in
theorem markWayOut_any (S C : Int) (A : Option Addr) (c base k0 : Nat) (L : List Pl) (w : World) (h : OwnPl w base (.slice A L.length c) L) (hL : L.length ≤ 1100000) (hk0 : k0 ≤ 1000000000) :
    Calls Try.prog 23 #[.agg #[.slice A L.length c, .int .i64 S, .int .i64 C], .int .i64 k0] w fun e w' => e = .returned (.int .i64 ((k0 + 2 * L.length : Nat) : Int)) ∧ OwnPl w' base (.slice A L.length c) (marksPl k0 L.length) ∧ w.grownBy w' (Value.slice A L.length c).ownBlock := by
  have HT := Lib.hid (markPls A c base k0 L _ (h.alloc (.cells #[.slice A L.length c, .int .i64 S, .int .i64 C] 32)) hL hk0)
  clear h
  have hbw : Below w.heap.size w (w.alloc (.cells #[.slice A L.length c, .int .i64 S, .int .i64 C] 32)) := (Below.refl _ _).alloc (Nat.le_refl _) _
  go_enter Try.func23, Try.ntmps23
  go_wp2_with fail
  refine HT.out.mono ?_
  rintro e w1 ⟨rfl, ho, hg, _⟩
  have HO := Lib.hid ho
  have HG := Lib.hid (by_trans (below_by hbw _) hg)
  clear HT ho hg hbw
  go_wp2
  go_ret
  exact ⟨rfl, HO.out, HG.out⟩

set_option maxHeartbeats 400000 in
theorem heldWayOut_any (S C : Int) (A : Option Addr) (c k0 n : Nat) (w : World) (h : RPl w w.heap.size A (marksPl k0 n)) (hn : n ≤ 1100000) (hk0 : k0 ≤ 1000000000) :
    Calls Try.prog 24 #[.agg #[.slice A n c, .int .i64 S, .int .i64 C], .int .i64 k0] w fun e w' => e = .returned (.int .i64 ((k0 + 2 * n : Nat) : Int)) ∧ Below w.heap.size w w' := by
  have hbw : Below w.heap.size w (w.alloc (.cells #[.slice A n c, .int .i64 S, .int .i64 C] 32)) := (Below.refl _ _).alloc (Nat.le_refl _) _
  have HT := Lib.hid (heldPls A c _ k0 n _ (h.below' hbw) hn hk0)
  have HB := Lib.hid hbw
  clear h hbw
  go_enter Try.func24, Try.ntmps24
  go_wp2_with fail
  refine HT.out.mono ?_
  rintro e w1 ⟨rfl, rfl⟩
  clear HT
  go_wp2
  go_ret
  exact ⟨rfl, HB.out⟩

/-- An answer in its box q, with its row, between B and hi. -/
structure WA (w : World) (B hi q : Nat) (S C : Int) (v : Value) (L : List Pl) : Prop where
  m : WB w q v S C
  oT : OwnPl w B v L
  lT : Lies v B hi
  hq : B ≤ q ∧ q < hi
  aT : v.ownBlock ≠ some q
def itW (B hi q : Nat) (S C : Int) (v : Value) (L : List Pl) : It := ⟨B, hi, fun w => WA w B hi q S C v L, fun w w' hk h =>
  ⟨h.m.at_ (hk q h.hq.1 h.hq.2), ownsRow_at h.oT h.lT hk, h.lT, h.hq, h.aT⟩⟩
theorem WA.marked {w w' : World} {B hi q : Nat} {S C : Int} {v : Value} {L L' : List Pl} (h : WA w B hi q S C v L) (hq : w'.heap[q]? = w.heap[q]?) (oT : OwnPl w' B v L') : WA w' B hi q S C v L' := ⟨h.m.at_ hq, oT, h.lT, h.hq, h.aT⟩
theorem WA.new {w0 w1 : World} {B : Nat} {S C : Int} {v : Value} {L : List Pl} (h1 : OwnPl w1 w0.heap.size v L) (hB : B ≤ w0.heap.size) (hz : w0.heap.size ≤ w1.heap.size) :
    WA (w1.alloc (.cells #[v, .int .i64 S, .int .i64 C] 32)) B (w1.alloc (.cells #[v, .int .i64 S, .int .i64 C] 32)).heap.size w1.heap.size S C v L := by
  have l1 := h1.lt
  refine ⟨WB.made _ _ _ _ _, OwnPl.lower hB (h1.alloc _), fun k hk => ?_, ⟨by omega, by simp⟩, fun e => ?_⟩
  · have := l1 k hk; simp; omega
  · have := (l1 _ e).2; omega
/-- The box of zeros, made ahead. -/
structure ZW (W0 : World) (q : Nat) (wr : World) : Prop where
  bel : Below W0.heap.size W0 wr
  m : WB wr q (.slice none 0 0) 0 0
  hq : W0.heap.size ≤ q ∧ q < wr.heap.size
theorem ZW.below {W0 : World} {q : Nat} {wr wr' : World} (h : ZW W0 q wr) (hb : Below wr.heap.size wr wr') : ZW W0 q wr' := ⟨h.bel.trans (hb.mono h.bel.size), h.m.at_ (hb.block q h.hq.2), h.hq.1, Nat.lt_of_lt_of_le h.hq.2 hb.size⟩
theorem ZW.drew {W0 : World} {q : Nat} {wr : World} (h : ZW W0 q wr) : ZW W0 q wr.drew := h.below (Below.refl _ _).drew
theorem ZW.made {W0 wr : World} (h : Below W0.heap.size W0 wr) : ZW W0 wr.heap.size (wr.alloc (.cells #[.slice none 0 0, .int .i64 0, .int .i64 0] 32)) := ⟨h.alloc h.size _, WB.made _ _ _ _ _, h.size, by simp⟩
theorem ZW.fill {W0 w0 w1 : World} {q : Nat} {S C : Int} {v : Value} {L : List Pl} (z : ZW W0 q w1) (hq0 : q < w0.heap.size) (hW : W0.heap.size ≤ w0.heap.size) (h1 : OwnPl w1 w0.heap.size v L) :
    WA (((w1.setCell ⟨q, 0, none⟩ v).setCell ⟨q, 1, none⟩ (.int .i64 S)).setCell ⟨q, 2, none⟩ (.int .i64 C)) W0.heap.size (((w1.setCell ⟨q, 0, none⟩ v).setCell ⟨q, 1, none⟩ (.int .i64 S)).setCell ⟨q, 2, none⟩ (.int .i64 C)).heap.size q S C v L := by
  have l1 := h1.lt
  have hs : (((w1.setCell ⟨q, 0, none⟩ v).setCell ⟨q, 1, none⟩ (.int .i64 S)).setCell ⟨q, 2, none⟩ (.int .i64 C)).heap.size = w1.heap.size := by simp
  rw [hs]
  have a0 : (w1.setCell ⟨q, 0, none⟩ v).cell? ⟨q, 0, none⟩ = some v := World.cell?_setCell_same _ _ _ z.m.c0
  have a1 : (w1.setCell ⟨q, 0, none⟩ v).cell? ⟨q, 1, none⟩ = some (.int .i64 0) := (World.cell?_setCell_other _ _ _ _ (by simp)).trans z.m.c1
  have a2 : (w1.setCell ⟨q, 0, none⟩ v).cell? ⟨q, 2, none⟩ = some (.int .i64 0) := (World.cell?_setCell_other _ _ _ _ (by simp)).trans z.m.c2
  have b0 := (World.cell?_setCell_other (w1.setCell ⟨q, 0, none⟩ v) ⟨q, 1, none⟩ ⟨q, 0, none⟩ (.int .i64 S) (by simp)).trans a0
  have b1 : ((w1.setCell ⟨q, 0, none⟩ v).setCell ⟨q, 1, none⟩ (.int .i64 S)).cell? ⟨q, 1, none⟩ = some (.int .i64 S) := World.cell?_setCell_same _ _ _ a1
  have b2 := (World.cell?_setCell_other (w1.setCell ⟨q, 0, none⟩ v) ⟨q, 1, none⟩ ⟨q, 2, none⟩ (.int .i64 S) (by simp)).trans a2
  refine ⟨⟨(World.cell?_setCell_other _ _ _ _ (by simp)).trans b0, (World.cell?_setCell_other _ _ _ _ (by simp)).trans b1, World.cell?_setCell_same _ _ _ b2, by simpa using z.m.f0, by simpa using z.m.f1, by simpa using z.m.f2⟩,
    OwnPl.lower hW (OwnPl.set_below hq0 _ (OwnPl.set_below hq0 _ (OwnPl.set_below hq0 _ h1))), fun k hk => ?_, ⟨z.hq.1, z.hq.2⟩, fun e => ?_⟩
  · have := l1 k hk; omega
  · have := (l1 _ e).1; omega
theorem ZW.fill_bel {W0 w1 : World} {q : Nat} (S C : Int) (v : Value) (z : ZW W0 q w1) : Below W0.heap.size W0 (((w1.setCell ⟨q, 0, none⟩ v).setCell ⟨q, 1, none⟩ (.int .i64 S)).setCell ⟨q, 2, none⟩ (.int .i64 C)) :=
  ((z.bel.setCell z.hq.1 _).setCell z.hq.1 _).setCell z.hq.1 _
/-- An answer that is a way. -/
def WOut (w w' : World) (S C : Int) (L : List Pl) (e : Ending) : Prop := ∃ A c, e = .returned (.agg #[.slice A L.length c, .int .i64 S, .int .i64 C]) ∧ OwnPl w' w.heap.size (.slice A L.length c) L ∧ Below w.heap.size w w'
end Go.Proofs.Ytmjbefjkkncjlaa
