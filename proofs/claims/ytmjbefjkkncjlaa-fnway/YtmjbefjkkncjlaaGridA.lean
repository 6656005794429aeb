/- The model's maps: a tile, a copy, what is filled. -/
import Derived.Test.YtmjbefjkkncjlaaGridN
namespace Go.Proofs.Ytmjbefjkkncjlaa
open Go.RowKit

def gridIn (side x y : Int) : Bool := inIs x 0 (side - 1) && inIs y 0 (side - 1)
theorem side_sub {side : Int} (hs : sideOk side = true) : IntKind.i64.wrap (side - 1) = side - 1 := by
  rcases (sideOk_iff side).1 hs with rfl | rfl | rfl | rfl <;> decide
theorem side_bound {side : Int} (hs : sideOk side = true) : 1 ≤ side ∧ side ≤ 8 := by
  rcases (sideOk_iff side).1 hs with rfl | rfl | rfl | rfl <;> decide

set_option maxHeartbeats 400000 in
theorem mIn_any (side x y : Int) (A : Option Addr) (n c : Nat) (w : World) (hs : sideOk side = true) :
    Calls Try.prog 29 #[.agg #[.int .i64 side, .slice A n c], .int .i64 x, .int .i64 y] w fun e w' => e = .returned (.bool (gridIn side x y)) ∧ Below w.heap.size w w' := by
  have hw := side_sub hs
  have h1 := mIs_any x 0 (side - 1)
  have h2 := mIs_any y 0 (side - 1)
  have hbw : Below w.heap.size w (w.alloc (.cells #[.int .i64 side, .slice A n c] 25)) := (Below.refl _ _).alloc (Nat.le_refl _) _
  cases hx : inIs x 0 (side - 1)
  · rw [hx] at h1
    have HX := Lib.hid hx
    clear hx
    go_enter Try.func29, Try.ntmps29
    go_wp2_with fail
    refine (h1 _).mono ?_
    rintro e w1 ⟨rfl, rfl⟩
    go_wp2
    go_ret
    exact ⟨ret_bool (by simp [gridIn, HX.out]), hbw⟩
  · rw [hx] at h1
    have HX := Lib.hid hx
    clear hx
    go_enter Try.func29, Try.ntmps29
    go_wp2_with fail
    refine (h1 _).mono ?_
    rintro e w1 ⟨rfl, rfl⟩
    go_wp2_with fail
    refine (h2 _).mono ?_
    rintro e w1 ⟨rfl, rfl⟩
    go_wp2
    go_ret
    exact ⟨ret_bool (by simp [gridIn, HX.out]), hbw⟩

theorem right_parts {side : Int} {l : List Int} (h : gridRight side l = true) : sideOk side = true ∧ (l.length : Int) = side * side ∧ ∀ j (hj : j < l.length), 0 ≤ l[j] ∧ l[j] ≤ 9 := by
  simp only [gridRight, Bool.and_eq_true, beq_iff_eq, List.all_eq_true] at h
  exact ⟨h.1.1, h.1.2, fun j hj => (tileOk_iff _).1 (h.2 _ (List.getElem_mem hj))⟩
theorem right_len {side : Int} {l : List Int} (h : gridRight side l = true) : l.length ≤ 64 := by
  obtain ⟨hs, hl, _⟩ := right_parts h
  rcases (sideOk_iff side).1 hs with rfl | rfl | rfl | rfl <;> omega
def tileAt (side : Int) (l : List Int) (x y : Int) : Int := if gridRight side l && gridIn side x y then l.getD (y * side + x).toNat 0 else -1
theorem gridIn_iff {side x y : Int} : gridIn side x y = true ↔ 0 ≤ x ∧ x < side ∧ 0 ≤ y ∧ y < side := by
  simp [gridIn, inIs]; omega
theorem place_bound {side x y : Int} {l : List Int} (hr : gridRight side l = true) (hi : gridIn side x y = true) : ∃ j : Nat, y * side + x = j ∧ j < l.length ∧ IntKind.i64.wrap (y * side) = y * side ∧ IntKind.i64.wrap (y * side + x) = y * side + x := by
  obtain ⟨hs, hl, _⟩ := right_parts hr
  obtain ⟨h1, h2, h3, h4⟩ := gridIn_iff.1 hi
  have hy0 : 0 ≤ y * side := Int.mul_nonneg h3 (by omega)
  have hy1 : y * side ≤ (side - 1) * side := Int.mul_le_mul_of_nonneg_right (by omega) (by omega)
  rw [Int.sub_mul, Int.one_mul] at hy1
  have hl64 := right_len hr
  refine ⟨(y * side + x).toNat, by omega, by omega, ?_, ?_⟩
  · exact IntWalk.i64_in _ (by omega)
  · exact IntWalk.i64_in _ (by omega)

set_option maxRecDepth 100000 in
set_option maxHeartbeats 400000 in
theorem mTileAt_any (side x y : Int) (A : Option Addr) (c : Nat) (l : List Int) (w : World) (h : RI w w.heap.size A l) (hl : l.length ≤ 1000000000) :
    Calls Try.prog 16 #[.agg #[.int .i64 side, .slice A l.length c], .int .i64 x, .int .i64 y] w fun e w' => e = .returned (.int .i64 (tileAt side l x y)) ∧ Below w.heap.size w w' := by
  have hbw : Below w.heap.size w (w.alloc (.cells #[.int .i64 side, .slice A l.length c] 25)) := (Below.refl _ _).alloc (Nat.le_refl _) _
  have H := Lib.hid h
  have HR := Lib.hid (mRight_any side A c l _ ((h.below hbw).mono (by simp)) hl)
  clear h
  cases hr : gridRight side l
  · rw [hr] at HR
    have HG := Lib.hid hr
    clear hr
    go_enter Try.func16, Try.ntmps16
    go_wp2_with fail
    refine HR.out.mono ?_
    rintro e w1 ⟨rfl, hb⟩
    have HB := Lib.hid (hbw.trans (hb.mono (by simp)))
    clear hb
    go_wp2
    go_ret
    exact ⟨ret_int (by simp [tileAt, HG.out]), HB.out⟩
  · rw [hr] at HR
    have hs := (right_parts hr).1
    have hin := fun w => mIn_any side x y A l.length c w hs
    have HG := Lib.hid hr
    cases hi : gridIn side x y
    · rw [hi] at hin
      have HI := Lib.hid hi
      clear hi hr
      go_enter Try.func16, Try.ntmps16
      go_wp2_with fail
      refine HR.out.mono ?_
      rintro e w1 ⟨rfl, hb⟩
      have HB := Lib.hid (hbw.trans (hb.mono (by simp)))
      obtain ⟨hc, hf⟩ := bcell hb
      clear hb
      go_wp2_with fail
      refine (hin _).mono ?_
      rintro e w2 ⟨rfl, hb2⟩
      have HB2 := Lib.hid (HB.out.trans (hb2.mono HB.out.size))
      clear hb2
      go_wp2
      go_ret
      exact ⟨ret_int (by simp [tileAt, HI.out]), HB2.out⟩
    · rw [hi] at hin
      obtain ⟨j, hj, hjl, hw1, hw2⟩ := place_bound hr hi
      rw [hj] at hw2
      have HI := Lib.hid hi
      have HJ := Lib.hid hj
      clear hi hr
      obtain ⟨b, off, rfl, hbl, hcl⟩ := H.out.at_ hjl
      go_enter Try.func16, Try.ntmps16
      go_wp2_with fail
      refine HR.out.mono ?_
      rintro e w1 ⟨rfl, hb⟩
      have HB := Lib.hid (hbw.trans (hb.mono (by simp)))
      obtain ⟨hc, hf⟩ := bcell hb
      have hz : w.heap.size < w1.heap.size := by have := hb.size; simp at this; omega
      clear hb
      go_wp2_with fail
      refine (hin _).mono ?_
      rintro e w2 ⟨rfl, hb2⟩
      have HB2 := Lib.hid (HB.out.trans (hb2.mono HB.out.size))
      obtain ⟨hc2, hf2⟩ := bcell hb2
      have hcj : w2.cell? ⟨b, off + j, none⟩ = some (.int .i64 l[j]) := (HB2.out.cell (p := ⟨b, off + j, none⟩) hbl).trans hcl
      clear hb2 hcl
      go_wp2
      go_ret
      exact ⟨ret_int (by simp [tileAt, HI.out, HG.out, HJ.out, hjl]), HB2.out⟩

set_option maxRecDepth 100000 in
set_option maxHeartbeats 400000 in
theorem mCopy_any (side : Int) (A : Option Addr) (c : Nat) (l : List Int) (w : World) (h : RI w w.heap.size A l) (hl : l.length ≤ 1000000000) (h0 : 0 < l.length) :
    Calls Try.prog 75 #[.agg #[.int .i64 side, .slice A l.length c]] w fun e w' => ∃ A' c', e = .returned (.agg #[.int .i64 side, .slice A' l.length c']) ∧ OwnI 2 .i64 w' w.heap.size (.slice A' l.length c') l ∧ Below w.heap.size w w' := by
  obtain ⟨i0, hi, hz0, hz1, hz2⟩ := info_parts Try.infoInt
  rcases h with h | ⟨b, off, rfl, hbl, hc⟩
  · subst h; simp at h0
  have HC := Lib.hid hc
  clear hc
  go_enter Try.func75, Try.ntmps75
  go_wp2_with fail
  have HBX := Lib.hid (((((Below.refl w.heap.size w).alloc (Nat.le_refl _) (.cells #[.int .i64 side, .slice (some ⟨b, off, none⟩) l.length c] 25)).alloc (by simp) (.cells #[.int .i64 0, .slice none 0 0] 25)).alloc (by simp; omega) (.cells #[] 2)).drew)
  have hol := OwnI.lit (e := 2) (k := .i64) (w := (w.alloc (.cells #[.int .i64 side, .slice (some ⟨b, off, none⟩) l.length c] 25)).alloc (.cells #[.int .i64 0, .slice none 0 0] 25)) (base := w.heap.size + 1 + 1) [] (by simp) (by simp)
  simp only [alloc_size, List.map_nil, List.length_nil] at hol
  have HOL := Lib.hid hol.drew
  clear hol
  go_region_held3 (fun w' => w'.cell? ⟨w.heap.size, 0, none⟩ = some (.int .i64 side) ∧ w'.cell? ⟨w.heap.size, 1, none⟩ = some (.slice (some ⟨b, off, none⟩) l.length c))
    (first
      | go_keep
      | (go_split_ands
         refine ⟨?_, ?_⟩
         · (rw [hc1 _ _ (by omega)]; simp [go_sem])
         · (rw [hc1 _ _ (by omega)]; simp [go_sem])))
    ((refine step_append_ints Try.underlying23 hi hz0 hz1 hz2 (by decide) (by rfl) _ _ (by rfl) (w.heap.size + 1 + 1) _ [] l _ b off c HOL.out (by rfl) (by rfl) (fun j hj => (HBX.out.cell (p := ⟨b, off + j, none⟩) hbl).trans (HC.out j hj)) h0 (by simp <;> omega) (by simp <;> omega) ?_; intro g cap w1 hown1 hb1; obtain ⟨hc1, hf1⟩ := bcell hb1))
  rename_i hheld
  have HO := Lib.hid hown1
  have hz : w.heap.size + 1 < w1.heap.size := by have := hb1.size; simp at this; omega
  have HB := Lib.hid ((HBX.out.trans (hb1.mono (by omega))))
  clear hheld hown1 hb1 HBX HOL HC
  go_wp2
  refine bodyPost_ret (v := .agg #[.int .i64 side, .slice (some ⟨g, 0, none⟩) l.length cap]) (by simp [results, Try.results75, go_sem, hc1]) rfl ⟨_, _, rfl, ?_, ?_⟩
  · have h2 := HO.out
    simp only [List.length_nil, Nat.zero_add, List.nil_append] at h2
    exact OwnI.lower (base := w.heap.size + 1 + 1) (by omega) (OwnI.set_below (by show w.heap.size + 1 < _; omega) _ (OwnI.set_below (by show w.heap.size + 1 < _; omega) _ h2))
  · exact (HB.out.setCell (by simp) _).setCell (by simp) _
end Go.Proofs.Ytmjbefjkkncjlaa
