/- FnExactDist: for every input the law returns true, and its arguments read as before. No condition beyond the row's own. -/
import Derived.Test.YtbcnfohbiagfpaaRows
import Derived.WalkKit
import Derived.ProofKit
import Derived.OpenShut
import Derived.ShutString
import Derived.ChangeOld
import Derived.Below
import Derived.WalkSpells
import Derived.WalkLawsBesides
import Derived.Lib.Hide
import Derived.Test.YtbcnfohbiagfpaaWyDq
import Derived.Test.YtbcnfohbiagfpaaWyB
namespace Go.Proofs.Ytbcnfohbiagfpaa.fnExactDist
open Go.ChangeShapes Go.WideShapes Go.ChangeAt Go.RowKit
open Go.ChangeMaps (open_string shut_string)
set_option linter.unusedVariables false

theorem own : ownKnob Try.prog.godebug = none := by kernel_rfl
theorem laidOut : laidOutB Try.prog = true := by kernel_rfl

set_option maxRecDepth 100000 in
set_option maxHeartbeats 4000000 in
theorem walk (s0 : Int) (a0 : Option Addr) (c0 : Nat) (l0 : List Int) (X1 Y1 : Int) (X2 Y2 : Int) (w : World) (h0 : InGrid w s0 a0 l0) (h1 : ((Lit.int .i64 X1).wf = true ∧ (Lit.int .i64 Y1).wf = true)) (h2 : ((Lit.int .i64 X2).wf = true ∧ (Lit.int .i64 Y2).wf = true)) :
    Calls Try.prog 7 #[.agg #[.int .i64 s0, .slice a0 l0.length c0], .agg #[.int .i64 X1, .int .i64 Y1], .agg #[.int .i64 X2, .int .i64 Y2]] w fun e w' => e = .returned (.bool true) ∧ Below w.heap.size w w' := by
  have HR0 := Lib.hid h0.2.1
  have hlm0 := h0.2.2.1
  have HS0 := Lib.hid h0.nums
  have HS1 := Lib.hid (And.intro (bounds_i64 h1.1) (bounds_i64 h1.2))
  have HS2 := Lib.hid (And.intro (bounds_i64 h2.1) (bounds_i64 h2.2))
  unfold maxLen at hlm0
  clear h0 h1 h2
  have HF0 : Hid (St w [(bxL (w.heap.size + 1 + 1) X2 Y2), (bxL (w.heap.size + 1) X1 Y1), (bxG (w.heap.size) s0 (.slice a0 l0.length c0))] (((w.alloc (.cells #[.int .i64 s0, .slice a0 l0.length c0] 53)).alloc (.cells #[.int .i64 X1, .int .i64 Y1] 71)).alloc (.cells #[.int .i64 X2, .int .i64 Y2] 71))) := by
    have := ((((St.start w).push ((Below.refl _ w).alloc (Nat.le_refl _) (.cells #[.int .i64 s0, .slice a0 l0.length c0] 53)) (bxG w.heap.size s0 (.slice a0 l0.length c0)) (Nat.le_refl _) (by simp [bxG]) (GB.made w s0 (.slice a0 l0.length c0) 53)).push ((Below.refl _ (w.alloc (.cells #[.int .i64 s0, .slice a0 l0.length c0] 53))).alloc (Nat.le_refl _) (.cells #[.int .i64 X1, .int .i64 Y1] 71)) (bxL (w.alloc (.cells #[.int .i64 s0, .slice a0 l0.length c0] 53)).heap.size X1 Y1) (Nat.le_refl _) (by simp [bxL]) (PlB.made (w.alloc (.cells #[.int .i64 s0, .slice a0 l0.length c0] 53)) X1 Y1 71)).push ((Below.refl _ ((w.alloc (.cells #[.int .i64 s0, .slice a0 l0.length c0] 53)).alloc (.cells #[.int .i64 X1, .int .i64 Y1] 71))).alloc (Nat.le_refl _) (.cells #[.int .i64 X2, .int .i64 Y2] 71)) (bxL ((w.alloc (.cells #[.int .i64 s0, .slice a0 l0.length c0] 53)).alloc (.cells #[.int .i64 X1, .int .i64 Y1] 71)).heap.size X2 Y2) (Nat.le_refl _) (by simp [bxL]) (PlB.made ((w.alloc (.cells #[.int .i64 s0, .slice a0 l0.length c0] 53)).alloc (.cells #[.int .i64 X1, .int .i64 Y1] 71)) X2 Y2 71))
    simp only [alloc_size] at this
    exact this
  have hsz0 := fun w => szGrid_any s0 (1048576) a0 l0.length c0 w (by omega) (by decide) (by decide)
  by_cases hl0 : (l0.length : Int) ≤ 1048576
  · rw [if_pos hl0] at hsz0
    have hleft1 : (0 : Int) ≤ 1048576 - l0.length := by omega
    obtain ⟨d0, hd0⟩ := gdist_any s0 l0 X1 Y1
    have hM := fun A0 c0' w h0 => mDist_any s0 X1 Y1 X2 Y2 A0 c0' l0 d0 w h0 (by omega) hd0
    have hI := fun A0 c0' w h0 => pDist_any s0 X1 Y1 X2 Y2 A0 c0' l0 d0 w h0 (by omega) HS1.out.1 HS1.out.2 HS2.out.1 HS2.out.2 hd0
    generalize dOne s0 l0 X1 Y1 X2 Y2 d0 = D at *
    clear hd0
    go_enter Try.func7, Try.ntmps7
    go_wp2_with fail
    refine (hsz0 _).mono ?_
    rintro e w1 ⟨rfl, hb1⟩
    have HF1 := Lib.hid (HF0.out.below hb1)
    clear hb1 HF0 
    clear hsz0
    obtain ⟨p00, p01, _, _⟩ := HF1.out.get 2 rfl
    obtain ⟨p10, p11⟩ := HF1.out.get 1 rfl
    obtain ⟨p20, p21⟩ := HF1.out.get 0 rfl
    go_wp2_with fail
    have HFd := Lib.hid HF1.out.drew
    have HT2 := Lib.hid (toGrid_any s0 a0 c0 l0 w1.drew (HR0.out.below' HFd.out.bel) (by omega))
    go_region_held3 (fun w' => w'.cell? ⟨(w.heap.size), 0, none⟩ = some (.int .i64 s0) ∧ w'.cell? ⟨(w.heap.size), 1, none⟩ = some (.slice a0 l0.length c0) ∧ w'.cell? ⟨(w.heap.size + 1), 0, none⟩ = some (.int .i64 X1) ∧ w'.cell? ⟨(w.heap.size + 1), 1, none⟩ = some (.int .i64 Y1) ∧ w'.cell? ⟨(w.heap.size + 1 + 1), 0, none⟩ = some (.int .i64 X2) ∧ w'.cell? ⟨(w.heap.size + 1 + 1), 1, none⟩ = some (.int .i64 Y2))
      (first
        | go_keep
        | exact hk5
        | exact hk4
        | exact hk3
        | exact hk2)
      (first
        | (go_at_call 21; refine (hM _ l0.length w4 HO4_0.out.ri).mono ?_; rintro e w5 ⟨rfl, hb5⟩; have HF5 := Lib.hid (HF4.out.below hb5); have hk5 := And.intro (HF5.out.get 2 rfl : (GB w5 (w.heap.size) s0 (.slice a0 l0.length c0))).c0 (And.intro (HF5.out.get 2 rfl : (GB w5 (w.heap.size) s0 (.slice a0 l0.length c0))).c1 (And.intro (HF5.out.get 1 rfl : (PlB w5 (w.heap.size + 1) X1 Y1)).c0 (And.intro (HF5.out.get 1 rfl : (PlB w5 (w.heap.size + 1) X1 Y1)).c1 (And.intro (HF5.out.get 0 rfl : (PlB w5 (w.heap.size + 1 + 1) X2 Y2)).c0 (HF5.out.get 0 rfl : (PlB w5 (w.heap.size + 1 + 1) X2 Y2)).c1)))))
        | (go_at_call 42; refine (toPl_v X2 Y2 w3).mono ?_; rintro e w4 ⟨rfl, hb4⟩; have HF4 := Lib.hid (HF3.out.below hb4); have HO4_0 := Lib.hid (HO3_0.out.keep hb4); have hk4 := And.intro (HF4.out.get 2 rfl : (GB w4 (w.heap.size) s0 (.slice a0 l0.length c0))).c0 (And.intro (HF4.out.get 2 rfl : (GB w4 (w.heap.size) s0 (.slice a0 l0.length c0))).c1 (And.intro (HF4.out.get 1 rfl : (PlB w4 (w.heap.size + 1) X1 Y1)).c0 (And.intro (HF4.out.get 1 rfl : (PlB w4 (w.heap.size + 1) X1 Y1)).c1 (And.intro (HF4.out.get 0 rfl : (PlB w4 (w.heap.size + 1 + 1) X2 Y2)).c0 (HF4.out.get 0 rfl : (PlB w4 (w.heap.size + 1 + 1) X2 Y2)).c1)))))
        | (go_at_call 42; refine (toPl_v X1 Y1 w2).mono ?_; rintro e w3 ⟨rfl, hb3⟩; have HF3 := Lib.hid (HF2.out.below hb3); have HO3_0 := Lib.hid (HO2_0.out.keep hb3); have hk3 := And.intro (HF3.out.get 2 rfl : (GB w3 (w.heap.size) s0 (.slice a0 l0.length c0))).c0 (And.intro (HF3.out.get 2 rfl : (GB w3 (w.heap.size) s0 (.slice a0 l0.length c0))).c1 (And.intro (HF3.out.get 1 rfl : (PlB w3 (w.heap.size + 1) X1 Y1)).c0 (And.intro (HF3.out.get 1 rfl : (PlB w3 (w.heap.size + 1) X1 Y1)).c1 (And.intro (HF3.out.get 0 rfl : (PlB w3 (w.heap.size + 1 + 1) X2 Y2)).c0 (HF3.out.get 0 rfl : (PlB w3 (w.heap.size + 1 + 1) X2 Y2)).c1)))))
        | (go_at_call 33; refine HT2.out.mono ?_; rintro e w2 ⟨g2, rfl, ho2, hb2⟩; have HF2 := Lib.hid (HFd.out.below hb2); have HO2_0 := Lib.hid ho2; have hk2 := And.intro (HF2.out.get 2 rfl : (GB w2 (w.heap.size) s0 (.slice a0 l0.length c0))).c0 (And.intro (HF2.out.get 2 rfl : (GB w2 (w.heap.size) s0 (.slice a0 l0.length c0))).c1 (And.intro (HF2.out.get 1 rfl : (PlB w2 (w.heap.size + 1) X1 Y1)).c0 (And.intro (HF2.out.get 1 rfl : (PlB w2 (w.heap.size + 1) X1 Y1)).c1 (And.intro (HF2.out.get 0 rfl : (PlB w2 (w.heap.size + 1 + 1) X2 Y2)).c0 (HF2.out.get 0 rfl : (PlB w2 (w.heap.size + 1 + 1) X2 Y2)).c1))))))
    rename_i hheld
    skip
    clear hheld hk5 hb5 HFd HT2 HF1 hk2 ho2 hb2 HF2 HO2_0 hk3 hb3 HF3 HO3_0 hk4 hb4 HF4 HO4_0 p00 p01 p10 p11 p20 p21
    obtain ⟨p0, p1, _, _⟩ := HF5.out.get 2 rfl
    go_wp2_with fail
    refine (toGrid_any s0 a0 c0 l0 _ (HR0.out.below' HF5.out.bel) (by omega)).mono ?_
    rintro e w6 ⟨g6, rfl, ho6, hb6⟩
    have HF6 := Lib.hid (HF5.out.push hb6 (rwI w5.heap.size w6.heap.size (.slice (some ⟨g6, 0, none⟩) l0.length l0.length) l0) (Nat.le_refl _) (Nat.le_refl _) ⟨ho6, ho6.lies⟩)
    have HG6 := Lib.hid (HF6.out.push ((Below.refl _ w6).alloc (Nat.le_refl _) (.cells #[.int .i64 s0, (.slice (some ⟨g6, 0, none⟩) l0.length l0.length)] 25)) (bxG w6.heap.size s0 (.slice (some ⟨g6, 0, none⟩) l0.length l0.length)) (Nat.le_refl _) (by simp [bxG]) (GB.made w6 s0 (.slice (some ⟨g6, 0, none⟩) l0.length l0.length) 25))
    clear HF6
    clear hb6 ho6 HF5 p0 p1
    obtain ⟨x00, x01, _, _⟩ := HG6.out.get 0 rfl
    obtain ⟨p10, p11⟩ := HG6.out.get 3 rfl
    obtain ⟨p20, p21⟩ := HG6.out.get 2 rfl
    go_wp2_with fail
    have HFd := Lib.hid HG6.out.drew
    have hkd := And.intro (HFd.out.get 0 rfl : (GB (w6.alloc (.cells #[.int .i64 s0, (.slice (some ⟨g6, 0, none⟩) l0.length l0.length)] 25)).drew w6.heap.size s0 (.slice (some ⟨g6, 0, none⟩) l0.length l0.length))).c0 (And.intro (HFd.out.get 0 rfl : (GB (w6.alloc (.cells #[.int .i64 s0, (.slice (some ⟨g6, 0, none⟩) l0.length l0.length)] 25)).drew w6.heap.size s0 (.slice (some ⟨g6, 0, none⟩) l0.length l0.length))).c1 (And.intro (HFd.out.get 3 rfl : (PlB (w6.alloc (.cells #[.int .i64 s0, (.slice (some ⟨g6, 0, none⟩) l0.length l0.length)] 25)).drew (w.heap.size + 1) X1 Y1)).c0 (And.intro (HFd.out.get 3 rfl : (PlB (w6.alloc (.cells #[.int .i64 s0, (.slice (some ⟨g6, 0, none⟩) l0.length l0.length)] 25)).drew (w.heap.size + 1) X1 Y1)).c1 (And.intro (HFd.out.get 2 rfl : (PlB (w6.alloc (.cells #[.int .i64 s0, (.slice (some ⟨g6, 0, none⟩) l0.length l0.length)] 25)).drew (w.heap.size + 1 + 1) X2 Y2)).c0 ((HFd.out.get 2 rfl : (PlB (w6.alloc (.cells #[.int .i64 s0, (.slice (some ⟨g6, 0, none⟩) l0.length l0.length)] 25)).drew (w.heap.size + 1 + 1) X2 Y2)).c1)))))
    go_region_held3 (fun w' => w'.cell? ⟨w6.heap.size, 0, none⟩ = some (.int .i64 s0) ∧ w'.cell? ⟨w6.heap.size, 1, none⟩ = some ((.slice (some ⟨g6, 0, none⟩) l0.length l0.length)) ∧ w'.cell? ⟨(w.heap.size + 1), 0, none⟩ = some (.int .i64 X1) ∧ w'.cell? ⟨(w.heap.size + 1), 1, none⟩ = some (.int .i64 Y1) ∧ w'.cell? ⟨(w.heap.size + 1 + 1), 0, none⟩ = some (.int .i64 X2) ∧ w'.cell? ⟨(w.heap.size + 1 + 1), 1, none⟩ = some (.int .i64 Y2))
      (first
        | with_reducible exact hk9
        | with_reducible exact hk8
        | with_reducible exact hk7
        | with_reducible exact hkd
        | go_keep)
      (first
        | (go_at_call 20; have HQ0 : Hid (OwnI 2 .i64 w8 w5.heap.size (.slice (some ⟨g6, 0, none⟩) l0.length l0.length) l0) := (HF8.out.get 1 rfl).1; refine (hI _ l0.length w8 HQ0.out.ri).mono ?_; rintro e w9 ⟨rfl, hb9⟩; have HF9 := Lib.hid (HF8.out.below hb9); have hk9 := And.intro (HF9.out.get 0 rfl : (GB w9 w6.heap.size s0 (.slice (some ⟨g6, 0, none⟩) l0.length l0.length))).c0 (And.intro (HF9.out.get 0 rfl : (GB w9 w6.heap.size s0 (.slice (some ⟨g6, 0, none⟩) l0.length l0.length))).c1 (And.intro (HF9.out.get 3 rfl : (PlB w9 (w.heap.size + 1) X1 Y1)).c0 (And.intro (HF9.out.get 3 rfl : (PlB w9 (w.heap.size + 1) X1 Y1)).c1 (And.intro (HF9.out.get 2 rfl : (PlB w9 (w.heap.size + 1 + 1) X2 Y2)).c0 ((HF9.out.get 2 rfl : (PlB w9 (w.heap.size + 1 + 1) X2 Y2)).c1))))))
        | (go_at_call 42; refine (toPl_v X2 Y2 w7).mono ?_; rintro e w8 ⟨rfl, hb8⟩; have HF8 := Lib.hid (HF7.out.below hb8); have hk8 := And.intro (HF8.out.get 0 rfl : (GB w8 w6.heap.size s0 (.slice (some ⟨g6, 0, none⟩) l0.length l0.length))).c0 (And.intro (HF8.out.get 0 rfl : (GB w8 w6.heap.size s0 (.slice (some ⟨g6, 0, none⟩) l0.length l0.length))).c1 (And.intro (HF8.out.get 3 rfl : (PlB w8 (w.heap.size + 1) X1 Y1)).c0 (And.intro (HF8.out.get 3 rfl : (PlB w8 (w.heap.size + 1) X1 Y1)).c1 (And.intro (HF8.out.get 2 rfl : (PlB w8 (w.heap.size + 1 + 1) X2 Y2)).c0 ((HF8.out.get 2 rfl : (PlB w8 (w.heap.size + 1 + 1) X2 Y2)).c1))))))
        | (go_at_call 42; refine (toPl_v X1 Y1 _).mono ?_; rintro e w7 ⟨rfl, hb7⟩; have HF7 := Lib.hid (HFd.out.below hb7); have hk7 := And.intro (HF7.out.get 0 rfl : (GB w7 w6.heap.size s0 (.slice (some ⟨g6, 0, none⟩) l0.length l0.length))).c0 (And.intro (HF7.out.get 0 rfl : (GB w7 w6.heap.size s0 (.slice (some ⟨g6, 0, none⟩) l0.length l0.length))).c1 (And.intro (HF7.out.get 3 rfl : (PlB w7 (w.heap.size + 1) X1 Y1)).c0 (And.intro (HF7.out.get 3 rfl : (PlB w7 (w.heap.size + 1) X1 Y1)).c1 (And.intro (HF7.out.get 2 rfl : (PlB w7 (w.heap.size + 1 + 1) X2 Y2)).c0 ((HF7.out.get 2 rfl : (PlB w7 (w.heap.size + 1 + 1) X2 Y2)).c1)))))))
    rename_i hheld
    clear hheld hkd hk9 hb9 HFd HG6 hk7 hb7 HF7 hk8 hb8 HF8 HQ0 x00 x01 p10 p11 p20 p21
    skip
    obtain ⟨x0, x1, _, _⟩ := HF9.out.get 0 rfl
    obtain ⟨p0, p1, _, _⟩ := HF9.out.get 4 rfl
    go_wp2_with fail
    have HFd := Lib.hid HF9.out.drew
    have HT10 := Lib.hid (toGrid_any s0 a0 c0 l0 w9.drew (HR0.out.below' HFd.out.bel) (by omega))
    go_region_held3 (fun w' => w'.cell? ⟨w6.heap.size, 0, none⟩ = some (.int .i64 s0) ∧ w'.cell? ⟨w6.heap.size, 1, none⟩ = some ((.slice (some ⟨g6, 0, none⟩) l0.length l0.length)) ∧ w'.cell? ⟨(w.heap.size), 0, none⟩ = some (.int .i64 s0) ∧ w'.cell? ⟨(w.heap.size), 1, none⟩ = some (.slice a0 l0.length c0))
      (first
        | go_keep
        | exact hk11
        | exact hk10)
      (first
        | (go_at_call 37; refine (eqGrid_any s0 _ _ l0.length l0.length l0 w10 HQ0.out.ri ho10.ri (by omega)).mono ?_; rintro e w11 ⟨rfl, hb11⟩; have HF11 := Lib.hid (HF10.out.below hb11); have hk11 := And.intro (HF11.out.get 0 rfl : (GB w11 w6.heap.size s0 (.slice (some ⟨g6, 0, none⟩) l0.length l0.length))).c0 (And.intro (HF11.out.get 0 rfl : (GB w11 w6.heap.size s0 (.slice (some ⟨g6, 0, none⟩) l0.length l0.length))).c1 (And.intro (HF11.out.get 4 rfl : (GB w11 (w.heap.size) s0 (.slice a0 l0.length c0))).c0 ((HF11.out.get 4 rfl : (GB w11 (w.heap.size) s0 (.slice a0 l0.length c0))).c1))))
        | (go_at_call 33; refine HT10.out.mono ?_; rintro e w10 ⟨g10, rfl, ho10, hb10⟩; have HF10 := Lib.hid (HFd.out.below hb10); have HQ0 : Hid (OwnI 2 .i64 w10 w5.heap.size (.slice (some ⟨g6, 0, none⟩) l0.length l0.length) l0) := (HF10.out.get 1 rfl).1; have hk10 := And.intro (HF10.out.get 0 rfl : (GB w10 w6.heap.size s0 (.slice (some ⟨g6, 0, none⟩) l0.length l0.length))).c0 (And.intro (HF10.out.get 0 rfl : (GB w10 w6.heap.size s0 (.slice (some ⟨g6, 0, none⟩) l0.length l0.length))).c1 (And.intro (HF10.out.get 4 rfl : (GB w10 (w.heap.size) s0 (.slice a0 l0.length c0))).c0 ((HF10.out.get 4 rfl : (GB w10 (w.heap.size) s0 (.slice a0 l0.length c0))).c1)))))
    rename_i hheld
    clear hheld hk10 hk11 ho10 hb10 hb11 HT10 HF10 HFd HQ0 HF9 x0 x1 p0 p1
    go_wp2
    go_ret
    exact ⟨rfl, HF11.out.bel⟩
  · rw [if_neg hl0] at hsz0
    go_enter Try.func7, Try.ntmps7
    go_wp2_with fail
    refine (hsz0 _).mono ?_
    rintro e w1 ⟨rfl, hb1⟩
    have HF1 := Lib.hid (HF0.out.below hb1)
    clear hb1 HF0 
    go_wp2
    go_ret
    exact ⟨rfl, HF1.out.bel⟩

set_option maxRecDepth 100000 in
theorem lifted (os : Os) (started : os.Started) (H : Type) (enc : TypeId × Value → H) :
    ReturnsInHanded {} Try.checked os 7 .any (Rows.fnExactDistSpec.pre6 enc Try.prog Try.f7 Rows.fnExactDistRow.domain false) (Rows.fnExactDistSpec.post enc Try.prog Try.f7 false true false false) := by
  refine returnsInHanded_of_change (C := Try.checked) own started (by kernel_rfl) Try.func7
    (ChangeSpec.witness6 (enc := enc) (C := Try.checked) false ⟨#[], #[.agg #[.int .i64 0, .slice none 0 0], .agg #[.int .i64 0, .int .i64 0], .agg #[.int .i64 0, .int .i64 0]], []⟩ 8 (by kernel_rfl) (by kernel_rfl) (by kernel_rfl) (by kernel_rfl)) ?_
  intro W base args ds gs before hval0 hW hcnd _
  have hval : ∀ (j : Nat) t v, Try.f7.params[j]? = some t → args[j]? = some v → Value.okWide Try.prog W .any base t v := hval0
  have hW' := hW
  obtain ⟨p, q, hA0, hV, rfl, hfz, hnd⟩ := hW
  have hA : DataW.TrodAll enc Try.prog W 0 (fun _ => true) true Try.f7.params.toList args.toList ds p := hA0
  rw [Try.params7] at hA hval
  obtain ⟨v0, vs0, d0, ds0, p0, q0, hargs, rfl, rfl, h0, r0⟩ := trodAll_cons hA
  obtain ⟨v1, vs1, d1, ds1, p1, q1, rfl, rfl, rfl, h1, r1⟩ := trodAll_cons r0
  obtain ⟨v2, vs2, d2, ds2, p2, q2, rfl, rfl, rfl, h2, r2⟩ := trodAll_cons r1
  obtain ⟨rfl, rfl, rfl⟩ := trodAll_nil r2
  obtain rfl : args = #[v0, v1, v2] := by cases args; simp_all
  obtain ⟨rfl, rfl⟩ := trodVars_none hV
  have k0 := h0
  have lt0 : ∀ x ∈ p0, x.block < W.heap.size := by obtain ⟨m, hm⟩ := k0; exact DataW.trod_lt m _ _ _ hm
  obtain ⟨side0, a0, cap0, z0, rfl, w0⟩ := open_grid (hval 0 53 v0 rfl rfl) h0
  have k1 := h1
  have lt1 : ∀ x ∈ p1, x.block < W.heap.size := by obtain ⟨m, hm⟩ := k1; exact DataW.trod_lt m _ _ _ hm
  obtain ⟨x1, y1, rfl, w1⟩ := open_pl (hval 1 71 v1 rfl rfl) h1
  have k2 := h2
  have lt2 : ∀ x ∈ p2, x.block < W.heap.size := by obtain ⟨m, hm⟩ := k2; exact DataW.trod_lt m _ _ _ hm
  obtain ⟨x2, y2, rfl, w2⟩ := open_pl (hval 2 71 v2 rfl rfl) h2
  clear hA0 hval0
  refine (walk side0 a0 cap0 z0 x1 y1 x2 y2 W w0 w1 w2).mono fun e W' ⟨he, bel⟩ => ?_
  subst he
  exact ⟨_, rfl, _, _, _, [], _, [], hW', trodAll_mk1 (shut_bool Try.underlying4 _), (trodAll_cons_mk (Below.trod laidOut (by kernel_rfl) (of_decide_eq_true (by kernel_rfl)) k0 bel lt0) (trodAll_cons_mk (Below.trod laidOut (by kernel_rfl) (of_decide_eq_true (by kernel_rfl)) k1 bel lt1) (trodAll_cons_mk (Below.trod laidOut (by kernel_rfl) (of_decide_eq_true (by kernel_rfl)) k2 bel lt2) trodAll_mk0))), rfl, bel.frame _, fun h => by cases h⟩

theorem over : Rows.fnExactDistRow.holds Try.pinned (OpenSpec.ofChange Rows.fnExactDistSpec) :=
  OpenClaim.holds_of_wide 7 Try.f7 rfl rfl rfl rfl rfl rfl rfl ⟨rfl, rfl, rfl, rfl, rfl⟩ rfl rfl rfl rfl rfl (by kernel_rfl) Try.func7 (by kernel_rfl)
    (of_decide_eq_true (by kernel_rfl)) (by unfold Func.isWrapper; first | (rw [if_pos (by decide +kernel)]; kernel_rfl) | (rw [if_neg (by decide +kernel)]; exact ⟨rfl, rfl⟩))
    (fun os started H enc _ => lifted os started H enc)

end Go.Proofs.Ytbcnfohbiagfpaa.fnExactDist
namespace Go.Proofs.Ytbcnfohbiagfpaa
/-- The statement. -/
theorem fnExactDist_holds : Rows.FnExactDistSaid := fnExactDist.over
end Go.Proofs.Ytbcnfohbiagfpaa
