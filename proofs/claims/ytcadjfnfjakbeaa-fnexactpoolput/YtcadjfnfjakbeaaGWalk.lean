/- The exact laws of GridRight, TileAt and GridText, walked for any program whose function keeps its contract. -/
import Derived.Test.YtcadjfnfjakbeaaGridO
import Derived.Test.YtcadjfnfjakbeaaGridR
import Derived.Test.YtcadjfnfjakbeaaGridS
namespace Go.Proofs.Ytcadjfnfjakbeaa
open Go.RowKit

/-- A number of 64 bits. -/
def In64 (n : Int) : Prop := -9223372036854775808 ≤ n ∧ n ≤ 9223372036854775807
/-- What a map that came in is: its side is a number of 64 bits, its tiles lie below. -/
def InGrid (w : World) (side : Int) (a : Option Addr) (l : List Int) : Prop := (Lit.int .i64 side).wf = true ∧ RI w w.heap.size a l ∧ l.length ≤ maxLen ∧ ∀ n ∈ l, (Lit.int .i64 n).wf = true
theorem InGrid.nums {w : World} {side : Int} {a : Option Addr} {l : List Int} (h : InGrid w side a l) : In64 side ∧ ∀ n ∈ l, In64 n := ⟨bounds_i64 h.1, fun n hn => bounds_i64 (h.2.2.2 n hn)⟩
theorem GB.drew {w : World} {b : Nat} {side : Int} {v : Value} (h : GB w b side v) : GB w.drew b side v := ⟨h.c0, h.c1, h.f0, h.f1⟩

/-- The contract of the program's GridRight. -/
def GridRightDoes : Prop := ∀ (side : Int) (A : Option Addr) (c : Nat) (l : List Int) (w : World), In64 side ∧ (∀ n ∈ l, In64 n) → RI w w.heap.size A l → l.length ≤ 1048576 → l.length ≤ c → Calls Try.prog 28 #[.agg #[.int .i64 side, .slice A l.length c]] w fun e w' => e = .returned (.bool (gridRight side l)) ∧ Below w.heap.size w w'

/-- The contract of the program's TileAt. -/
def TileAtDoes : Prop := ∀ (side : Int) (x y : Int) (A : Option Addr) (c : Nat) (l : List Int) (w : World), In64 side ∧ (∀ n ∈ l, In64 n) → In64 x → In64 y → RI w w.heap.size A l → l.length ≤ 1048576 → l.length ≤ c → Calls Try.prog 24 #[.agg #[.int .i64 side, .slice A l.length c], .int .i64 x, .int .i64 y] w fun e w' => e = .returned (.int .i64 (tileAt side l x y)) ∧ Below w.heap.size w w'

set_option maxRecDepth 100000 in
set_option maxHeartbeats 400000 in
theorem tileAt_walk (himpl : TileAtDoes)
    (side : Int) (a : Option Addr) (cap : Nat) (l : List Int) (x y : Int) (w : World) (w0 : InGrid w side a l) (hx : (Lit.int .i64 x).wf = true) (hy : (Lit.int .i64 y).wf = true) :
    Calls Try.prog 4 #[.agg #[.int .i64 side, .slice a l.length cap], .int .i64 x, .int .i64 y] w fun e w' => e = .returned (.bool true) ∧ Below w.heap.size w w' := by
  have HS := Lib.hid w0.nums
  obtain ⟨_, hri, hlm, _⟩ := w0
  unfold maxLen at hlm
  have HR := Lib.hid hri
  have Hx := Lib.hid (bounds_i64 hx)
  clear hx
  have Hy := Lib.hid (bounds_i64 hy)
  clear hy
  clear hri
  have hbw : Below w.heap.size w (w.alloc (.cells #[.int .i64 side, .slice a l.length cap] 47)) := (Below.refl _ _).alloc (Nat.le_refl _) _
  have hsz := fun w => szGrid_any side 1048576 a l.length cap w (by omega) (by decide) (by decide)
  by_cases hl : (l.length : Int) ≤ 1048576
  · rw [if_pos hl] at hsz
    have hleft : (0 : Int) ≤ 1048576 - l.length := by omega
    go_enter Try.func4, Try.ntmps4
    go_wp2_with fail
    refine (hsz _).mono ?_
    rintro e w1 ⟨rfl, hb1⟩
    have HG1 := Lib.hid ((GB.made w side (.slice a l.length cap) 47).below hb1 (by simp))
    have hz1 : w.heap.size < w1.heap.size := by have := hb1.size; simp at this; omega
    have HB1 := Lib.hid (hbw.trans (hb1.mono hbw.size))
    clear hb1
    obtain ⟨c10, c11, f10, f11⟩ := HG1.out
    go_wp2_with fail
    refine (toGrid_any side a cap l w1 ((HR.out.below HB1.out).mono HB1.out.size) (by omega)).mono ?_
    rintro e w2 ⟨g2, rfl, ho2, hb2⟩
    have HO2 := Lib.hid ho2
    have HG2 := Lib.hid (HG1.out.below hb2 hz1)
    have hz2 : w.heap.size < w2.heap.size := by have := hb2.size; omega
    have HB2 := Lib.hid (HB1.out.trans (hb2.mono HB1.out.size))
    clear hb2 ho2 c10 c11 f10 f11
    obtain ⟨c10, c11, f10, f11⟩ := HG2.out
    go_wp2_with fail
    refine (mTileAt_any side x y _ _ l w2 HO2.out.ri (by omega)).mono ?_
    rintro e w3 ⟨rfl, hb3⟩
    have HG3 := Lib.hid (HG2.out.below hb3 hz2)
    have hz3 : w.heap.size < w3.heap.size := by have := hb3.size; omega
    have HB3 := Lib.hid (HB2.out.trans (hb3.mono HB2.out.size))
    clear hb3 c10 c11 f10 f11
    obtain ⟨c10, c11, f10, f11⟩ := HG3.out
    go_wp2_with fail
    refine (toGrid_any side a cap l w3 ((HR.out.below HB3.out).mono HB3.out.size) (by omega)).mono ?_
    rintro e w4 ⟨g4, rfl, ho4, hb4⟩
    have HO4 := Lib.hid ho4
    have HG4 := Lib.hid (HG3.out.below hb4 hz3)
    have hz4 : w.heap.size < w4.heap.size := by have := hb4.size; omega
    have HB4 := Lib.hid (HB3.out.trans (hb4.mono HB3.out.size))
    clear hb4 ho4 c10 c11 f10 f11
    obtain ⟨c10, c11, f10, f11⟩ := HG4.out
    go_wp2_with fail
    have hba : Below w4.heap.size w4 (w4.alloc (.cells #[.int .i64 side, .slice (some ⟨g4, 0, none⟩) l.length l.length] 25)) := (Below.refl _ _).alloc (Nat.le_refl _) _
    refine (himpl side x y _ l.length l (w4.alloc (.cells #[.int .i64 side, .slice (some ⟨g4, 0, none⟩) l.length l.length] 25)) HS.out Hx.out Hy.out (HO4.out.alloc _).ri (by omega) (Nat.le_refl _)).mono ?_
    rintro e w5 ⟨rfl, hb5⟩
    have HO5 := Lib.hid ((HO4.out.alloc (.cells #[.int .i64 side, .slice (some ⟨g4, 0, none⟩) l.length l.length] 25)).keep hb5)
    have HG5 := Lib.hid (HG4.out.below (hba.trans (hb5.mono (by simp))) hz4)
    have HX5 := Lib.hid ((GB.made w4 side (.slice (some ⟨g4, 0, none⟩) l.length l.length) 25).below hb5 (by simp))
    have hz5 : w4.heap.size < w5.heap.size := by have := hb5.size; simp at this; omega
    have HB5 := Lib.hid (HB4.out.trans ((hba.trans (hb5.mono (by simp))).mono (by omega)))
    clear hb5 hba c10 c11 f10 f11
    obtain ⟨c10, c11, f10, f11⟩ := HG5.out
    obtain ⟨d10, d11, e10, e11⟩ := HX5.out
    go_wp2_with fail
    have HT6 := Lib.hid (toGrid_any side a cap l w5.drew ((HR.out.below HB5.out.drew).mono HB5.out.size) (by omega))
    go_region_held3 (fun w' => w'.cell? ⟨w4.heap.size, 0, none⟩ = some (.int .i64 side) ∧ w'.cell? ⟨w4.heap.size, 1, none⟩ = some (.slice (some ⟨g4, 0, none⟩) l.length l.length) ∧ w'.cell? ⟨w.heap.size, 0, none⟩ = some (.int .i64 side) ∧ w'.cell? ⟨w.heap.size, 1, none⟩ = some (.slice a l.length cap))
      (first
        | go_keep
        | exact hk6
        | exact hk7)
      (first
        | (go_at_call 32; refine HT6.out.mono ?_; rintro e w6 ⟨g6, rfl, ho6, hb6⟩; have hk6 : w6.cell? ⟨w4.heap.size, 0, none⟩ = some (.int .i64 side) ∧ w6.cell? ⟨w4.heap.size, 1, none⟩ = some (.slice (some ⟨g4, 0, none⟩) l.length l.length) ∧ w6.cell? ⟨w.heap.size, 0, none⟩ = some (.int .i64 side) ∧ w6.cell? ⟨w.heap.size, 1, none⟩ = some (.slice a l.length cap) := ⟨(HX5.out.drew.below hb6 hz5).c0, (HX5.out.drew.below hb6 hz5).c1, (HG5.out.drew.below hb6 (Nat.lt_trans hz4 hz5)).c0, (HG5.out.drew.below hb6 (Nat.lt_trans hz4 hz5)).c1⟩)
        | (go_at_call 33; refine (eqGrid_any side _ _ l.length l.length l w6 (OwnI.keep HO5.out.drew hb6).ri ho6.ri (by omega)).mono ?_; rintro e w7 ⟨rfl, hb7⟩; have hk7 : w7.cell? ⟨w4.heap.size, 0, none⟩ = some (.int .i64 side) ∧ w7.cell? ⟨w4.heap.size, 1, none⟩ = some (.slice (some ⟨g4, 0, none⟩) l.length l.length) ∧ w7.cell? ⟨w.heap.size, 0, none⟩ = some (.int .i64 side) ∧ w7.cell? ⟨w.heap.size, 1, none⟩ = some (.slice a l.length cap) := ⟨((HX5.out.drew.below hb6 hz5).below hb7 (Nat.lt_of_lt_of_le hz5 hb6.size)).c0, ((HX5.out.drew.below hb6 hz5).below hb7 (Nat.lt_of_lt_of_le hz5 hb6.size)).c1, ((HG5.out.drew.below hb6 (Nat.lt_trans hz4 hz5)).below hb7 (Nat.lt_of_lt_of_le (Nat.lt_trans hz4 hz5) hb6.size)).c0, ((HG5.out.drew.below hb6 (Nat.lt_trans hz4 hz5)).below hb7 (Nat.lt_of_lt_of_le (Nat.lt_trans hz4 hz5) hb6.size)).c1⟩))
    have HB7 := Lib.hid ((HB5.out.drew.trans (hb6.mono (Nat.le_of_lt (Nat.lt_trans hz4 hz5)))).trans (hb7.mono (Nat.le_trans (Nat.le_of_lt (Nat.lt_trans hz4 hz5)) hb6.size)))
    rename_i hheld
    clear hheld hb6 hb7 hk6 hk7 ho6
    go_wp2
    go_ret
    exact ⟨rfl, HB7.out⟩
  · rw [if_neg hl] at hsz
    go_enter Try.func4, Try.ntmps4
    go_wp2_with fail
    refine (hsz _).mono ?_
    rintro e w1 ⟨rfl, hb1⟩
    have HB1 := Lib.hid (hbw.trans (hb1.mono hbw.size))
    clear hb1
    go_wp2
    go_ret
    exact ⟨rfl, HB1.out⟩

/-- The contract of the program's GridText. -/
def GridTextDoes : Prop := ∀ (side : Int) (A : Option Addr) (c : Nat) (l : List Int) (w : World), In64 side ∧ (∀ n ∈ l, In64 n) → RI w w.heap.size A l → l.length ≤ 1048576 → l.length ≤ c → Calls Try.prog 13 #[.agg #[.int .i64 side, .slice A l.length c]] w fun e w' => e = .returned (.string (strOfNums (textOf side l))) ∧ Below w.heap.size w w'

end Go.Proofs.Ytcadjfnfjakbeaa
