/- The program's maps: a tile. -/
import Derived.Test.YtmjbefjkkncjlaaPgA
namespace Go.Proofs.Ytmjbefjkkncjlaa
open Go.RowKit

theorem spanIn_one (side x y : Int) : gridIn side x y = (spanIn side x 1 && spanIn side y 1) := by
  have : ∀ z : Int, inIs z 0 (side - 1) = spanIn side z 1 := by
    intro z; unfold inIs spanIn; apply decide_eq_decide.2; omega
  rw [gridIn, this, this]

set_option maxHeartbeats 400000 in
theorem pPlace_any (side x y : Int) (w : World) (hs : sideOk side = true) (hx : In64 x) (hy : In64 y) :
    Calls Try.prog 54 #[.int .i64 side, .int .i64 x, .int .i64 y] w fun e w' => e = .returned (.bool (gridIn side x y)) ∧ w = w' := by
  have hpx := fun w => pSpan_any side x 1 w hs hx
  have hpy := fun w => pSpan_any side y 1 w hs hy
  rw [spanIn_one]
  clear hx hy hs
  cases hix : spanIn side x 1
  · rw [hix] at hpx
    clear hix
    go_enter Try.func54, Try.ntmps54
    go_wp2_with fail
    refine (hpx _).mono ?_
    rintro e w2 ⟨rfl, rfl⟩
    go_wp2
    go_ret
    exact ⟨ret_bool (by simp), rfl⟩
  · rw [hix] at hpx
    clear hix
    go_enter Try.func54, Try.ntmps54
    go_wp2_with fail
    refine (hpx _).mono ?_
    rintro e w2 ⟨rfl, rfl⟩
    go_wp2_with fail
    refine (hpy _).mono ?_
    rintro e w2 ⟨rfl, rfl⟩
    go_wp2
    go_ret
    exact ⟨ret_bool (by simp), rfl⟩

set_option maxRecDepth 100000 in
set_option maxHeartbeats 400000 in
theorem pTileAt_any (side x y : Int) (A : Option Addr) (c : Nat) (l : List Int) (w : World) (h : RI w w.heap.size A l) (hl : l.length ≤ 1000000000) (hx : In64 x) (hy : In64 y) :
    Calls Try.prog 65 #[.agg #[.int .i64 side, .slice A l.length c], .int .i64 x, .int .i64 y] w fun e w' => e = .returned (.int .i64 (tileAt side l x y)) ∧ Below w.heap.size w w' := by
  have hbw : Below w.heap.size w (w.alloc (.cells #[.int .i64 side, .slice A l.length c] 25)) := (Below.refl _ _).alloc (Nat.le_refl _) _
  have H := Lib.hid h
  have HR := Lib.hid (pRight_any side A c l _ ((h.below hbw).mono (by simp)) hl)
  clear h
  cases hr : gridRight side l
  · rw [hr] at HR
    have HG := Lib.hid hr
    clear hr
    go_enter Try.func65, Try.ntmps65
    go_wp2_with fail
    refine HR.out.mono ?_
    rintro e w1 ⟨rfl, hb⟩
    have HB := Lib.hid (hbw.trans (hb.mono (by simp)))
    clear hb
    go_wp2
    go_ret
    exact ⟨ret_int (by simp [tileAt, HG.out]), HB.out⟩
  · rw [hr] at HR
    have hs := (right_parts hr).1
    have hpp := fun w => pPlace_any side x y w hs hx hy
    have HG := Lib.hid hr
    clear hx hy
    cases hi : gridIn side x y
    · rw [hi] at hpp
      have HI := Lib.hid hi
      clear hi hr
      go_enter Try.func65, Try.ntmps65
      go_wp2_with fail
      refine HR.out.mono ?_
      rintro e w1 ⟨rfl, hb⟩
      have HB := Lib.hid (hbw.trans (hb.mono (by simp)))
      obtain ⟨c0, c1, f0, f1⟩ := (GB.made w side (.slice _ l.length c) 25).below hb (by simp)
      clear hb
      go_wp2_with fail
      refine (hpp _).mono ?_
      rintro e w2 ⟨rfl, rfl⟩
      go_wp2
      go_ret
      exact ⟨ret_int (by simp [tileAt, HI.out]), HB.out⟩
    · rw [hi] at hpp
      obtain ⟨j, hj, hjl, hw1, hw2⟩ := place_bound hr hi
      rw [hj] at hw2
      have HI := Lib.hid hi
      have HJ := Lib.hid hj
      clear hi hr
      obtain ⟨b, off, rfl, hbl, hcl⟩ := H.out.at_ hjl
      go_enter Try.func65, Try.ntmps65
      go_wp2_with fail
      refine HR.out.mono ?_
      rintro e w1 ⟨rfl, hb⟩
      have HB := Lib.hid (hbw.trans (hb.mono (by simp)))
      obtain ⟨c0, c1, f0, f1⟩ := (GB.made w side (.slice _ l.length c) 25).below hb (by simp)
      have hz : w.heap.size < w1.heap.size := by have := hb.size; simp at this; omega
      have hcj : w1.cell? ⟨b, off + j, none⟩ = some (.int .i64 l[j]) := (HB.out.cell (p := ⟨b, off + j, none⟩) hbl).trans hcl
      clear hb hcl
      go_wp2_with fail
      refine (hpp _).mono ?_
      rintro e w2 ⟨rfl, rfl⟩
      go_wp2
      go_ret
      exact ⟨ret_int (by simp [tileAt, HI.out, HG.out, HJ.out, hjl]), HB.out⟩

theorem tileAt_does : TileAtDoes := fun side x y A c l w _ hx hy h hl _ => pTileAt_any side x y A c l w h (by omega) hx hy
end Go.Proofs.Ytmjbefjkkncjlaa
