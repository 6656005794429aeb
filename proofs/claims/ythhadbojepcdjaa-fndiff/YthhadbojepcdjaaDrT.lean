/- What the laws on maps draw: a tile, a map a little later. -/
import Derived.Test.YthhadbojepcdjaaDraw2
import Derived.Test.YthhadbojepcdjaaGridF
import Derived.Deep.RegionHeld3
namespace Go.Proofs.Ythhadbojepcdjaa
open Go.RowKit

/-- A literal row of numbers, one of which is drawn. -/
theorem lit_at {w w1 : World} {g k : Nat} {l : List Int} (hk : k < l.length) (hg : g < w.heap.size) (h : (w.alloc (.cells (l.map (Value.int .i64)).toArray 2)).grownBy w1 (some g)) : w1.cell? ⟨w.heap.size, k, none⟩ = some (.int .i64 l[k]) := by
  refine h.cell (a := ⟨w.heap.size, k, none⟩) (v := .int .i64 l[k]) ?_ ?_
  · rw [cell_of_row (w.alloc (.cells (l.map (Value.int .i64)).toArray 2)) w.heap.size k _ 2 (0, 0) (heap_alloc_new w _)]
    simp [hk]
  · intro e
    have e' : w.heap.size = g := Option.some.inj e
    omega

def TilePost (w : World) (g : Nat) (e : Ending) (w' : World) : Prop := ∃ r : Int, e = .returned (.int .i64 r) ∧ (-1 ≤ r ∧ r ≤ 10) ∧ Drew w g w'

set_option maxRecDepth 100000 in
set_option maxHeartbeats 400000 in
theorem src_tile (g : Nat) (w : World) (h : SrcB w g) :
    Calls Try.prog 42 #[.pointer (some ⟨g, 0, none⟩)] w (TilePost w g) := by
  have hlt := h.lt
  have H := Lib.hid h
  clear h
  go_enter Try.func42, Try.ntmps42
  go_wp2_with fail
  refine (src_one g 20 w H.out (by omega)).mono ?_
  rintro e w1 ⟨⟨b, rfl⟩, hd1⟩
  have H1 := Lib.hid hd1
  have hlt1 : g < w1.heap.size := hd1.1.lt
  clear hd1
  cases b
  · go_wp2_with fail
    have HD := Lib.hid (H1.out.alloc (.cells #[.int .i64 0, .int .i64 0, .int .i64 1, .int .i64 2, .int .i64 9] 2))
    refine (src_n g 5 _ HD.out.1 (by omega)).mono ?_
    rintro e w2 ⟨r, rfl, h1, h2, h3, h4, h5, h6⟩
    have h2' := h2 (by omega)
    obtain ⟨k, rfl⟩ := Int.eq_ofNat_of_zero_le h1
    have hk : k < ([0, 0, 1, 2, 9] : List Int).length := by simp; omega
    have hc := lit_at (l := [0, 0, 1, 2, 9]) hk hlt1 h5
    have HR : Hid (-1 ≤ ([0, 0, 1, 2, 9] : List Int)[k] ∧ ([0, 0, 1, 2, 9] : List Int)[k] ≤ 10) := by
      show _ ∧ _
      have hk5 : k < 5 := by omega
      match k, hk5 with
      | 0, _ => simp
      | 1, _ => simp
      | 2, _ => simp
      | 3, _ => simp
      | 4, _ => simp
    have HE : Hid (Drew w g w2) := HD.out.trans ⟨h4, h5⟩
    generalize ([0, 0, 1, 2, 9] : List Int)[k] = x at *
    clear h2 h3 h4 h5 h6
    go_wp2
    go_ret
    exact ⟨x, rfl, HR.out, HE.out⟩
  · go_wp2_with fail
    have HD := Lib.hid (H1.out.alloc (.cells #[.int .i64 (-1), .int .i64 9, .int .i64 10] 2))
    refine (src_n g 3 _ HD.out.1 (by omega)).mono ?_
    rintro e w2 ⟨r, rfl, h1, h2, h3, h4, h5, h6⟩
    have h2' := h2 (by omega)
    obtain ⟨k, rfl⟩ := Int.eq_ofNat_of_zero_le h1
    have hk : k < ([-1, 9, 10] : List Int).length := by simp; omega
    have hc := lit_at (l := [-1, 9, 10]) hk hlt1 h5
    have HR : Hid (-1 ≤ ([-1, 9, 10] : List Int)[k] ∧ ([-1, 9, 10] : List Int)[k] ≤ 10) := by
      show _ ∧ _
      have hk5 : k < 3 := by omega
      match k, hk5 with
      | 0, _ => simp
      | 1, _ => simp
      | 2, _ => simp
    have HE : Hid (Drew w g w2) := HD.out.trans ⟨h4, h5⟩
    generalize ([-1, 9, 10] : List Int)[k] = x at *
    clear h2 h3 h4 h5 h6
    go_wp2
    go_ret
    exact ⟨x, rfl, HR.out, HE.out⟩
end Go.Proofs.Ythhadbojepcdjaa
