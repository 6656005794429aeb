/- The program's ways: the steps from a place: the iterator and its maker. -/
import Derived.Test.YtmjbefjkkncjlaaWyS
import Derived.RangeFuncNested
import Derived.RangeFuncBound
import Derived.RangeFuncCalls
import Derived.RangeFuncLeaves
import Derived.Shelf.Abstract
import Derived.Shelf.RegionOpen
import Derived.WalkKit
import Derived.OwnWalkIn
import Derived.TacticsInMore
import Derived.LoopNIn
import Derived.LoopIn
import Derived.Deep.RegionWith
namespace Go.Proofs.Ytmjbefjkkncjlaa
open Go.RowKit Go.Shelf
set_option linter.unusedVariables false
set_option linter.unusedSimpArgs false

/-- The boxes of stepsFrom, and the tile that is looked at. -/
structure SF (w : World) (side : Int) (A : Option Addr) (c : Nat) (l : List Int) (px py : Int) (b o : Nat) (t0 : Int) (wr : World) : Prop where
  g0 : wr.cell? ⟨w.heap.size, 0, none⟩ = some (.int .i64 side)
  g1 : wr.cell? ⟨w.heap.size, 1, none⟩ = some (.slice A l.length c)
  p : PlB wr (w.heap.size + 1) px py
  row : ∀ j (h : j < (abP px py).length), PlAt wr (w.heap.size + 1 + 1) (j * 2) (abP px py)[j]
  tl : wr.cell? ⟨b, o, none⟩ = some (.int .i64 t0)
  bl : b < w.heap.size
  bel : Below w.heap.size w wr
  siz : w.heap.size + 1 + 1 < wr.heap.size
theorem SF.below {w wr wr' : World} {side : Int} {A : Option Addr} {c : Nat} {l : List Int} {px py : Int} {b o : Nat} {t0 : Int} (h : SF w side A c l px py b o t0 wr) (hb : Below wr.heap.size wr wr') : SF w side A c l px py b o t0 wr' := by
  have hz := h.siz
  have hbl := h.bl
  exact ⟨(hb.cell (p := ⟨w.heap.size, 0, none⟩) (by show w.heap.size < _; omega)).trans h.g0, (hb.cell (p := ⟨w.heap.size, 1, none⟩) (by show w.heap.size < _; omega)).trans h.g1, h.p.below hb (by omega), fun j hj => (h.row j hj).keep (hb.block _ hz), (hb.cell (p := ⟨b, o, none⟩) (by show b < _; omega)).trans h.tl, hbl, h.bel.trans (hb.mono (by omega)), Nat.lt_of_lt_of_le hz hb.size⟩
theorem SF.far {w wr : World} {side : Int} {A : Option Addr} {c : Nat} {l : List Int} {px py : Int} {b o : Nat} {t0 : Int} (h : SF w side A c l px py b o t0 wr) {q : Nat} (hq : w.heap.size + 1 + 1 < q) (u : Value) : SF w side A c l px py b o t0 (wr.setCell ⟨q, 0, none⟩ u) := by
  have hbl := h.bl
  have f : ∀ k o', k ≠ q → (wr.setCell ⟨q, 0, none⟩ u).cell? ⟨k, o', none⟩ = wr.cell? ⟨k, o', none⟩ := fun k o' hk => World.cell?_setCell_other _ _ _ _ (by simp [hk] <;> omega)
  exact ⟨(f _ _ (by omega)).trans h.g0, (f _ _ (by omega)).trans h.g1, ⟨(f _ _ (by omega)).trans h.p.c0, (f _ _ (by omega)).trans h.p.c1⟩, fun j hj => ⟨(f _ _ (by omega)).trans (h.row j hj).c0, (f _ _ (by omega)).trans (h.row j hj).c1⟩, (f _ _ (by omega)).trans h.tl, hbl, h.bel.setCell (by show _ ≤ q; omega) _, by simpa using h.siz⟩
theorem SF.sb {w wr : World} {side : Int} {A : Option Addr} {c : Nat} {l : List Int} {px py : Int} {b o bh : Nat} {t0 : Int} (h : SF w side A c l px py b o t0 wr) (hD : l.getD (pn side px py) 0 = t0) (hb : wr.cell? ⟨bh, 0, none⟩ = some (.int .i64 t0)) : SB wr (w.heap.size + 1 + 1) w.heap.size bh side A c l px py :=
  ⟨h.row, h.g0, h.g1, by rw [hD]; exact hb⟩

set_option maxRecDepth 100000 in
set_option maxHeartbeats 1000000 in
theorem pStepsFrom_any (side px py : Int) (A : Option Addr) (c : Nat) (l : List Int) (w : World) (h : RI w w.heap.size A l) (hr : gridRight side l = true) (ho : opn side l px py = true) :
    Calls Try.prog 43 #[.agg #[.int .i64 side, .slice A l.length c], .agg #[.int .i64 px, .int .i64 py]] w fun e w' => ∃ bb bg bh, e = .returned (.func (.func 67) #[] #[.pointer (some ⟨bb, 0, none⟩), .pointer (some ⟨bg, 0, none⟩), .pointer (some ⟨bh, 0, none⟩)]) ∧ SB w' bb bg bh side A c l px py ∧ (w.heap.size ≤ bb ∧ bb < w'.heap.size) ∧ (w.heap.size ≤ bg ∧ bg < w'.heap.size) ∧ (w.heap.size ≤ bh ∧ bh < w'.heap.size) ∧ Below w.heap.size w w' := by
  have hi := (opn_parts hr ho).1
  have hs8 := side_bound (right_parts hr).1
  obtain ⟨hx0, hx1, hy0, hy1⟩ := gridIn_iff.1 hi
  have e1 : IntKind.i64.wrap (py - 1) = py - 1 := IntWalk.i64_in _ (by omega)
  have e2 : IntKind.i64.wrap (px - 1) = px - 1 := IntWalk.i64_in _ (by omega)
  have e3 : IntKind.i64.wrap (px + 1) = px + 1 := IntWalk.i64_in _ (by omega)
  have e4 : IntKind.i64.wrap (py + 1) = py + 1 := IntWalk.i64_in _ (by omega)
  have hN := fun w => pNum5_any (side := side) (x := px) (y := py) (l := l) hr hi w
  obtain ⟨hl, hg⟩ := pn_lt hr hi
  obtain ⟨b, off, rfl, hbl, hc⟩ := h.at_ hl
  have hlI : ((pn side px py : Nat) : Int) < (l.length : Int) := by omega
  have HD : Hid (l.getD (pn side px py) 0 = l[pn side px py]) := by show _ = _; simp [List.getD, hl]
  generalize l[pn side px py] = t0 at hc HD
  obtain ⟨W, HW⟩ : ∃ W, W = (((w.alloc (.cells #[.int .i64 side, .slice (some ⟨b, off, none⟩) l.length c] 25)).alloc (.cells #[.int .i64 px, .int .i64 py] 27)).alloc (.cells #[.int .i64 px, .int .i64 (py - 1), .int .i64 (px - 1), .int .i64 py, .int .i64 (px + 1), .int .i64 py, .int .i64 px, .int .i64 (py + 1)] 90)) := ⟨_, rfl⟩
  have H0 : Hid (SF w side (some ⟨b, off, none⟩) c l px py b (off + pn side px py) t0 W) := by
    have hb : Below w.heap.size w W := by rw [HW]; exact bel_T (bel_A _ _) (bel_T (bel_A _ _) (bel_A _ _))
    refine ⟨by rw [HW]; simp [go_sem], by rw [HW]; simp [go_sem], by rw [HW]; exact ⟨by simp [go_sem], by simp [go_sem]⟩, fun j hj => ?_, (hb.cell (p := ⟨b, off + pn side px py, none⟩) hbl).trans hc, hbl, hb, by rw [HW]; simp⟩
    rw [HW]
    match j, hj with
    | 0, _ => exact ⟨by simp [go_sem, abP], by simp [go_sem, abP]⟩
    | 1, _ => exact ⟨by simp [go_sem, abP], by simp [go_sem, abP]⟩
    | 2, _ => exact ⟨by simp [go_sem, abP], by simp [go_sem, abP]⟩
    | 3, _ => exact ⟨by simp [go_sem, abP], by simp [go_sem, abP]⟩
  have HS : Hid (∀ w', SF w side (some ⟨b, off, none⟩) c l px py b (off + pn side px py) t0 w' → w'.cell? ⟨w.heap.size, 0, none⟩ = some (.int .i64 side) ∧ w'.cell? ⟨w.heap.size, 1, none⟩ = some (.slice (some ⟨b, off, none⟩) l.length c) ∧ w'.cell? ⟨w.heap.size + 1, 0, none⟩ = some (.int .i64 px) ∧ w'.cell? ⟨w.heap.size + 1, 1, none⟩ = some (.int .i64 py) ∧ w'.cell? ⟨b, off + pn side px py, none⟩ = some (.int .i64 t0)) :=
    fun w' h => ⟨h.g0, h.g1, h.p.c0, h.p.c1, h.tl⟩
  clear h hr ho hi hc hbl hx0 hx1 hy0 hy1 hs8 hg hl
  go_enter Try.func43, Try.ntmps43
  go_upto_region 2 with fail
  rw [← HW]
  clear HW
  have q0 := H0.out.below (bel_D _)
  have qz := (H0.out.below (bel_A _ (.cells #[.int .i64 0] 2))).below (bel_D _)
  have hkeep := HS.out _ q0
  go_region_held3 (fun w' => w'.cell? ⟨w.heap.size, 0, none⟩ = some (.int .i64 side) ∧ w'.cell? ⟨w.heap.size, 1, none⟩ = some (.slice (some ⟨b, off, none⟩) l.length c) ∧ w'.cell? ⟨w.heap.size + 1, 0, none⟩ = some (.int .i64 px) ∧ w'.cell? ⟨w.heap.size + 1, 1, none⟩ = some (.int .i64 py) ∧ w'.cell? ⟨b, off + pn side px py, none⟩ = some (.int .i64 t0))
    (first
      | (with_reducible exact hkeep)
      | (with_reducible exact HS.out _ qz)
      | (with_reducible exact HS.out _ (q1.below (bel_A _ _)))
      | (with_reducible exact HS.out _ (q1.far H0.out.siz _))
      | go_keep)
    (first
      | (go_at_call 39; refine (hN _).mono ?_; rintro e v1 ⟨rfl, hb⟩; have q1 := q0.below (by with_reducible exact hb); clear hkeep; have hkeep := HS.out _ q1; clear hb)
      | (go_at_call 39; refine (hN _).mono ?_; rintro e v1 ⟨rfl, hb⟩; have hz := hb.size; have c6 := hb.cell (p := ⟨W.heap.size, 0, none⟩) (by simp); have f6 := hb.frozen (p := ⟨W.heap.size, 0, none⟩) (by simp); have q1 := qz.below (by with_reducible exact hb); clear hkeep; have hkeep := HS.out _ q1; clear hb))
  all_goals
    have Q1 := Lib.hid q1
    have hz1 := q1.siz
  · clear hkeep q0 qz q1
    go_wp2_with fail
    go_ret
    have hq := Q1.out.below (bel_A v1 (.cells #[.int .i64 t0] 2))
    exact ⟨w.heap.size + 1 + 1, w.heap.size, v1.heap.size, rfl, hq.sb HD.out (by simp [go_sem]), ⟨by omega, by simp; omega⟩, ⟨by omega, by simp; omega⟩, ⟨by omega, by simp⟩, hq.bel⟩
  · have C6 := Lib.hid c6
    have hzW := H0.out.siz
    clear hkeep q0 qz q1 c6 f6
    go_wp2_with fail
    go_ret
    have hq := Q1.out.far (q := W.heap.size) hzW (.int .i64 t0)
    have hz2 : W.heap.size < v1.heap.size := by simp at hz; omega
    exact ⟨w.heap.size + 1 + 1, w.heap.size, W.heap.size, rfl, hq.sb HD.out (World.cell?_setCell_same' _ _ _ (by rw [C6.out]; simp [go_sem])), ⟨by omega, by simp; omega⟩, ⟨by omega, by simp; omega⟩, ⟨by omega, by simpa using hz2⟩, hq.bel⟩
end Go.Proofs.Ytmjbefjkkncjlaa
