/- The exact laws of PoolRight, Height and Weight, walked for any program whose function keeps its contract. -/
import Derived.Test.YtoobkajilbmdhaaGWalk
import Derived.Test.YtoobkajilbmdhaaNodeO
import Derived.Test.YtoobkajilbmdhaaNodeW
import Derived.Test.YtoobkajilbmdhaaPoolM
import Derived.Test.YtoobkajilbmdhaaPWalk
import Derived.Test.YtoobkajilbmdhaaWt
namespace Go.Proofs.Ytoobkajilbmdhaa
open Go.RowKit
set_option linter.unusedVariables false

/-- The contract of Weight, of the program and of the model. -/
def WeightDoes (fn : Nat) : Prop := ∀ (A : Option Addr) (c : Nat) (l : List Nd) (root : Int) (w : World), PoolIn A c l w → In64 root → Calls Try.prog fn #[.agg #[.slice A l.length c], .int .i64 root] w fun e w' => e = .returned (.int .i64 (weightN l root)) ∧ Below w.heap.size w w'

set_option maxRecDepth 100000 in
set_option maxHeartbeats 400000 in
theorem weight_walk (hspec : WeightDoes 7) (himpl : WeightDoes 9)
    (a : Option Addr) (cap : Nat) (l : List Nd) (root : Int) (w : World) (w0 : InPool w a l) (hroot : (Lit.int .i64 root).wf = true) :
    Calls Try.prog 3 #[.agg #[.slice a l.length cap], .int .i64 root] w fun e w' => e = .returned (.bool true) ∧ Below w.heap.size w w' := by
  obtain ⟨hri, hlm, hfit⟩ := w0
  unfold maxLen at hlm
  have HR := Lib.hid hri
  have HF := Lib.hid hfit
  clear hri hfit
  have Hroot := Lib.hid (bounds_i64 hroot)
  clear hroot
  have hbw : Below w.heap.size w (w.alloc (.cells #[.slice a l.length cap] 24)) := (Below.refl _ _).alloc (Nat.le_refl _) _
  have hsz := fun w => szPool_any 1048576 a l.length cap w (by omega) (by decide) (by decide)
  by_cases hl : (l.length : Int) ≤ 1048576
  · rw [if_pos hl] at hsz
    have hleft : (0 : Int) ≤ 1048576 - l.length := by omega
    go_enter Try.func3, Try.ntmps3
    go_wp2_with fail
    refine (hsz _).mono ?_
    rintro e w1 ⟨rfl, hb1⟩
    have HG1 := Lib.hid ((B1.made w (.slice a l.length cap) 24).below hb1 (by simp))
    have hz1 : w.heap.size < w1.heap.size := by have := hb1.size; simp at this; omega
    have HB1 := Lib.hid (hbw.trans (hb1.mono hbw.size))
    clear hb1
    have c10 := HG1.out.c0
    go_wp2_with fail
    refine (toPool_any a cap l w1 ((HR.out.below HB1.out).mono HB1.out.size) (by omega)).mono ?_
    rintro e w2 ⟨g2, rfl, ho2, hb2⟩
    have HO2 := Lib.hid ho2
    have HG2 := Lib.hid (HG1.out.below hb2 hz1)
    have hz2 : w.heap.size < w2.heap.size := by have := hb2.size; omega
    have HB2 := Lib.hid (HB1.out.trans (hb2.mono HB1.out.size))
    clear hb2 ho2 c10
    have c10 := HG2.out.c0
    go_wp2_with fail
    refine (hspec _ l.length l root w2 ⟨HO2.out.rn, by omega, Nat.le_refl _, HF.out⟩ Hroot.out).mono ?_
    rintro e w3 ⟨rfl, hb3⟩
    have HG3 := Lib.hid (HG2.out.below hb3 hz2)
    have hz3 : w.heap.size < w3.heap.size := by have := hb3.size; omega
    have HB3 := Lib.hid (HB2.out.trans (hb3.mono HB2.out.size))
    clear hb3 c10
    have c10 := HG3.out.c0
    go_wp2_with fail
    refine (toPool_any a cap l w3 ((HR.out.below HB3.out).mono HB3.out.size) (by omega)).mono ?_
    rintro e w4 ⟨g4, rfl, ho4, hb4⟩
    have HO4 := Lib.hid ho4
    have HG4 := Lib.hid (HG3.out.below hb4 hz3)
    have hz4 : w.heap.size < w4.heap.size := by have := hb4.size; omega
    have HB4 := Lib.hid (HB3.out.trans (hb4.mono HB3.out.size))
    clear hb4 ho4 c10
    have c10 := HG4.out.c0
    go_wp2_with fail
    have hba : Below w4.heap.size w4 (w4.alloc (.cells #[.slice (some ⟨g4, 0, none⟩) l.length l.length] 29)) := (Below.refl _ _).alloc (Nat.le_refl _) _
    refine (himpl _ l.length l root (w4.alloc (.cells #[.slice (some ⟨g4, 0, none⟩) l.length l.length] 29)) ⟨(HO4.out.alloc _).rn, by omega, Nat.le_refl _, HF.out⟩ Hroot.out).mono ?_
    rintro e w5 ⟨rfl, hb5⟩
    have HO5 := Lib.hid ((HO4.out.alloc (.cells #[.slice (some ⟨g4, 0, none⟩) l.length l.length] 29)).keep hb5)
    have HG5 := Lib.hid (HG4.out.below (hba.trans (hb5.mono (by simp))) hz4)
    have HX5 := Lib.hid ((B1.made w4 (.slice (some ⟨g4, 0, none⟩) l.length l.length) 29).below hb5 (by simp))
    have hz5 : w4.heap.size < w5.heap.size := by have := hb5.size; simp at this; omega
    have HB5 := Lib.hid (HB4.out.trans ((hba.trans (hb5.mono (by simp))).mono (by omega)))
    clear hb5 hba c10
    have c10 := HG5.out.c0
    have d10 := HX5.out.c0
    go_wp2_with fail
    have HT6 := Lib.hid (toPool_any a cap l w5.drew ((HR.out.below HB5.out.drew).mono HB5.out.size) (by omega))
    go_region_held3 (fun w' => w'.cell? ⟨w4.heap.size, 0, none⟩ = some (.slice (some ⟨g4, 0, none⟩) l.length l.length) ∧ w'.cell? ⟨w.heap.size, 0, none⟩ = some (.slice a l.length cap))
      (first
        | go_keep
        | exact hk6
        | exact hk7)
      (first
        | (go_at_call 8; refine HT6.out.mono ?_; rintro e w6 ⟨g6, rfl, ho6, hb6⟩; have hk6 : w6.cell? ⟨w4.heap.size, 0, none⟩ = some (.slice (some ⟨g4, 0, none⟩) l.length l.length) ∧ w6.cell? ⟨w.heap.size, 0, none⟩ = some (.slice a l.length cap) := ⟨(HX5.out.drew.below hb6 hz5).c0, (HG5.out.drew.below hb6 (Nat.lt_trans hz4 hz5)).c0⟩)
        | (go_at_call 10; refine (eqPool_any _ _ l.length l.length l w6 (OwnN.keep HO5.out.drew hb6).rn ho6.rn (by omega)).mono ?_; rintro e w7 ⟨rfl, hb7⟩; have hk7 : w7.cell? ⟨w4.heap.size, 0, none⟩ = some (.slice (some ⟨g4, 0, none⟩) l.length l.length) ∧ w7.cell? ⟨w.heap.size, 0, none⟩ = some (.slice a l.length cap) := ⟨((HX5.out.drew.below hb6 hz5).below hb7 (Nat.lt_of_lt_of_le hz5 hb6.size)).c0, ((HG5.out.drew.below hb6 (Nat.lt_trans hz4 hz5)).below hb7 (Nat.lt_of_lt_of_le (Nat.lt_trans hz4 hz5) hb6.size)).c0⟩))
    have HB7 := Lib.hid ((HB5.out.drew.trans (hb6.mono (Nat.le_of_lt (Nat.lt_trans hz4 hz5)))).trans (hb7.mono (Nat.le_trans (Nat.le_of_lt (Nat.lt_trans hz4 hz5)) hb6.size)))
    rename_i hheld
    clear hheld hb6 hb7 hk6 hk7 ho6
    go_wp2
    go_ret
    exact ⟨rfl, HB7.out⟩
  · rw [if_neg hl] at hsz
    go_enter Try.func3, Try.ntmps3
    go_wp2_with fail
    refine (hsz _).mono ?_
    rintro e w1 ⟨rfl, hb1⟩
    have HB1 := Lib.hid (hbw.trans (hb1.mono hbw.size))
    clear hb1
    go_wp2
    go_ret
    exact ⟨rfl, HB1.out⟩

end Go.Proofs.Ytoobkajilbmdhaa
