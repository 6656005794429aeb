/- FnExactDiffOf: for every input the law returns true, and its arguments read as before. No condition beyond the row's own. -/
import Derived.Test.YtjcgelkeegepnaaRows
import Derived.WalkKit
import Derived.ProofKit
import Derived.OpenShut
import Derived.ShutString
import Derived.ChangeOld
import Derived.Below
import Derived.WalkSpells
import Derived.WalkLawsBesides
import Derived.Lib.Hide
import Derived.Test.YtjcgelkeegepnaaItems
import Derived.Test.YtjcgelkeegepnaaDfP
import Derived.Test.YtjcgelkeegepnaaGridO
namespace Go.Proofs.Ytjcgelkeegepnaa.fnExactDiffOf
open Go.ChangeShapes Go.WideShapes Go.ChangeAt Go.RowKit
open Go.ChangeMaps (open_string shut_string)
set_option linter.unusedVariables false

theorem own : ownKnob Try.prog.godebug = none := by kernel_rfl
theorem laidOut : laidOutB Try.prog = true := by kernel_rfl

set_option maxRecDepth 100000 in
set_option maxHeartbeats 1000000 in
theorem walk (s0 : Int) (a0 : Option Addr) (c0 : Nat) (l0 : List Int) (s1 : Int) (a1 : Option Addr) (c1 : Nat) (l1 : List Int) (w : World) (h0 : InGrid w s0 a0 l0) (h1 : InGrid w s1 a1 l1) :
    Calls Try.prog 5 #[.agg #[.int .i64 s0, .slice a0 l0.length c0], .agg #[.int .i64 s1, .slice a1 l1.length c1]] w fun e w' => e = .returned (.bool true) ∧ Below w.heap.size w w' := by
  have HR0 := Lib.hid h0.2.1
  have hlm0 := h0.2.2.1
  have HS0 := Lib.hid h0.nums
  have HR1 := Lib.hid h1.2.1
  have hlm1 := h1.2.2.1
  have HS1 := Lib.hid h1.nums
  unfold maxLen at hlm0 hlm1
  clear h0 h1
  have HF0 : Hid (St w [(bxG (w.heap.size + 1) s1 (.slice a1 l1.length c1)), (bxG (w.heap.size) s0 (.slice a0 l0.length c0))] ((w.alloc (.cells #[.int .i64 s0, .slice a0 l0.length c0] 48)).alloc (.cells #[.int .i64 s1, .slice a1 l1.length c1] 48))) := by
    have := (((St.start w).push ((Below.refl _ w).alloc (Nat.le_refl _) (.cells #[.int .i64 s0, .slice a0 l0.length c0] 48)) (bxG w.heap.size s0 (.slice a0 l0.length c0)) (Nat.le_refl _) (by simp [bxG]) (GB.made w s0 (.slice a0 l0.length c0) 48)).push ((Below.refl _ (w.alloc (.cells #[.int .i64 s0, .slice a0 l0.length c0] 48))).alloc (Nat.le_refl _) (.cells #[.int .i64 s1, .slice a1 l1.length c1] 48)) (bxG (w.alloc (.cells #[.int .i64 s0, .slice a0 l0.length c0] 48)).heap.size s1 (.slice a1 l1.length c1)) (Nat.le_refl _) (by simp [bxG]) (GB.made (w.alloc (.cells #[.int .i64 s0, .slice a0 l0.length c0] 48)) s1 (.slice a1 l1.length c1) 48))
    simp only [alloc_size] at this
    exact this
  have hsz0 := fun w => szGrid_any s0 (1048576) a0 l0.length c0 w (by omega) (by decide) (by decide)
  by_cases hl0 : (l0.length : Int) ≤ 1048576
  · rw [if_pos hl0] at hsz0
    have hleft1 : (0 : Int) ≤ 1048576 - l0.length := by omega
    have hsz1 := fun w => szGrid_any s1 (1048576 - l0.length) a1 l1.length c1 w (by omega) hleft1 (by omega)
    by_cases hl1 : (l1.length : Int) ≤ 1048576 - l0.length
    · rw [if_pos hl1] at hsz1
      have hleft2 : (0 : Int) ≤ 1048576 - l0.length - l1.length := by omega
      have hM := fun A0 c0' A1 c1' w h0 h1 => mDiffOf_any s0 A0 c0' l0 s1 A1 c1' l1 w h0 h1 (by omega) (by omega)
      have hI := fun A0 c0' A1 c1' w h0 h1 => pDiffOf_any s0 A0 c0' l0 s1 A1 c1' l1 w h0 h1 (by omega) (by omega)
      have hlen := diffOf_len s0 l0 s1 l1
      generalize diffOf s0 l0 s1 l1 = L at *
      go_enter Try.func5, Try.ntmps5
      go_wp2_with fail
      refine (hsz0 _).mono ?_
      rintro e w1 ⟨rfl, hb1⟩
      have HF1 := Lib.hid (HF0.out.below hb1)
      clear hb1 HF0 
      obtain ⟨p10, p11, _, _⟩ := HF1.out.get 0 rfl
      go_wp2_with fail
      refine (hsz1 _).mono ?_
      rintro e w2 ⟨rfl, hb2⟩
      have HF2 := Lib.hid (HF1.out.below hb2)
      clear hb2 HF1 p10 p11
      clear hsz0 hsz1
      obtain ⟨p00, p01, _, _⟩ := HF2.out.get 1 rfl
      obtain ⟨p10, p11, _, _⟩ := HF2.out.get 0 rfl
      go_wp2_with fail
      have HFd := Lib.hid HF2.out.drew
      have HT3 := Lib.hid (toGrid_any s0 a0 c0 l0 w2.drew (HR0.out.below' HFd.out.bel) (by omega))
      go_region_held3 (fun w' => w'.cell? ⟨(w.heap.size), 0, none⟩ = some (.int .i64 s0) ∧ w'.cell? ⟨(w.heap.size), 1, none⟩ = some (.slice a0 l0.length c0) ∧ w'.cell? ⟨(w.heap.size + 1), 0, none⟩ = some (.int .i64 s1) ∧ w'.cell? ⟨(w.heap.size + 1), 1, none⟩ = some (.slice a1 l1.length c1))
        (first
          | go_keep
          | exact hk5
          | exact hk4
          | exact hk3)
        (first
          | (go_at_call 15; refine (hM _ _ _ _ w4 HO4_0.out.ri HO4_1.out.ri).mono ?_; rintro e w5 ⟨A1, k1, rfl, ho5, hb5⟩; have HF5 := Lib.hid (HF4.out.below hb5); have hk5 := And.intro (HF5.out.get 1 rfl : (GB w5 (w.heap.size) s0 (.slice a0 l0.length c0))).c0 (And.intro (HF5.out.get 1 rfl : (GB w5 (w.heap.size) s0 (.slice a0 l0.length c0))).c1 (And.intro (HF5.out.get 0 rfl : (GB w5 (w.heap.size + 1) s1 (.slice a1 l1.length c1))).c0 (HF5.out.get 0 rfl : (GB w5 (w.heap.size + 1) s1 (.slice a1 l1.length c1))).c1)))
          | (go_at_call 26; refine (toGrid_any s1 a1 c1 l1 w3 (HR1.out.below' HF3.out.bel) (by omega)).mono ?_; rintro e w4 ⟨g4, rfl, ho4, hb4⟩; have HF4 := Lib.hid (HF3.out.below hb4); have HO4_0 := Lib.hid (HO3_0.out.keep hb4); have HO4_1 := Lib.hid ho4; have hk4 := And.intro (HF4.out.get 1 rfl : (GB w4 (w.heap.size) s0 (.slice a0 l0.length c0))).c0 (And.intro (HF4.out.get 1 rfl : (GB w4 (w.heap.size) s0 (.slice a0 l0.length c0))).c1 (And.intro (HF4.out.get 0 rfl : (GB w4 (w.heap.size + 1) s1 (.slice a1 l1.length c1))).c0 (HF4.out.get 0 rfl : (GB w4 (w.heap.size + 1) s1 (.slice a1 l1.length c1))).c1)))
          | (go_at_call 26; refine HT3.out.mono ?_; rintro e w3 ⟨g3, rfl, ho3, hb3⟩; have HF3 := Lib.hid (HFd.out.below hb3); have HO3_0 := Lib.hid ho3; have hk3 := And.intro (HF3.out.get 1 rfl : (GB w3 (w.heap.size) s0 (.slice a0 l0.length c0))).c0 (And.intro (HF3.out.get 1 rfl : (GB w3 (w.heap.size) s0 (.slice a0 l0.length c0))).c1 (And.intro (HF3.out.get 0 rfl : (GB w3 (w.heap.size + 1) s1 (.slice a1 l1.length c1))).c0 (HF3.out.get 0 rfl : (GB w3 (w.heap.size + 1) s1 (.slice a1 l1.length c1))).c1))))
      rename_i hheld
      have HG5 := Lib.hid (HF4.out.push hb5 (rwC w4.heap.size w5.heap.size (.slice A1 L.length k1) L) (Nat.le_refl _) (Nat.le_refl _) ⟨ho5, ho5.lies⟩)
      skip
      clear hheld hk5 hb5 HFd HT3 HF2 hk3 ho3 hb3 HF3 HO3_0 hk4 ho4 hb4 HF4 HO4_0 HO4_1 p00 p01 p10 p11 ho5 HF5
      obtain ⟨p0, p1, _, _⟩ := HG5.out.get 2 rfl
      go_wp2_with fail
      refine (toGrid_any s0 a0 c0 l0 _ (HR0.out.below' HG5.out.bel) (by omega)).mono ?_
      rintro e w6 ⟨g6, rfl, ho6, hb6⟩
      have HF6 := Lib.hid (HG5.out.push hb6 (rwI w5.heap.size w6.heap.size (.slice (some ⟨g6, 0, none⟩) l0.length l0.length) l0) (Nat.le_refl _) (Nat.le_refl _) ⟨ho6, ho6.lies⟩)
      have HG6 := Lib.hid (HF6.out.push ((Below.refl _ w6).alloc (Nat.le_refl _) (.cells #[.int .i64 s0, (.slice (some ⟨g6, 0, none⟩) l0.length l0.length)] 25)) (bxG w6.heap.size s0 (.slice (some ⟨g6, 0, none⟩) l0.length l0.length)) (Nat.le_refl _) (by simp [bxG]) (GB.made w6 s0 (.slice (some ⟨g6, 0, none⟩) l0.length l0.length) 25))
      clear HF6
      clear hb6 ho6 HG5 p0 p1
      obtain ⟨p0, p1, _, _⟩ := HG6.out.get 3 rfl
      go_wp2_with fail
      refine (toGrid_any s1 a1 c1 l1 _ (HR1.out.below' HG6.out.bel) (by omega)).mono ?_
      rintro e w7 ⟨g7, rfl, ho7, hb7⟩
      have HF7 := Lib.hid (HG6.out.push hb7 (rwI (w6.alloc (.cells #[.int .i64 s0, (.slice (some ⟨g6, 0, none⟩) l0.length l0.length)] 25)).heap.size w7.heap.size (.slice (some ⟨g7, 0, none⟩) l1.length l1.length) l1) (Nat.le_refl _) (Nat.le_refl _) ⟨ho7, ho7.lies⟩)
      have HG7 := Lib.hid (HF7.out.push ((Below.refl _ w7).alloc (Nat.le_refl _) (.cells #[.int .i64 s1, (.slice (some ⟨g7, 0, none⟩) l1.length l1.length)] 25)) (bxG w7.heap.size s1 (.slice (some ⟨g7, 0, none⟩) l1.length l1.length)) (Nat.le_refl _) (by simp [bxG]) (GB.made w7 s1 (.slice (some ⟨g7, 0, none⟩) l1.length l1.length) 25))
      clear HF7
      clear hb7 ho7 HG6 p0 p1
      obtain ⟨x00, x01, _, _⟩ := HG7.out.get 2 rfl
      obtain ⟨x10, x11, _, _⟩ := HG7.out.get 0 rfl
      go_wp2_with fail
      have HQ0 : Hid (OwnI 2 .i64 (w7.alloc (.cells #[.int .i64 s1, (.slice (some ⟨g7, 0, none⟩) l1.length l1.length)] 25)) w5.heap.size (.slice (some ⟨g6, 0, none⟩) l0.length l0.length) l0) := (HG7.out.get 3 rfl).1
      have HQ1 : Hid (OwnI 2 .i64 (w7.alloc (.cells #[.int .i64 s1, (.slice (some ⟨g7, 0, none⟩) l1.length l1.length)] 25)) (w6.alloc (.cells #[.int .i64 s0, (.slice (some ⟨g6, 0, none⟩) l0.length l0.length)] 25)).heap.size (.slice (some ⟨g7, 0, none⟩) l1.length l1.length) l1) := (HG7.out.get 1 rfl).1
      refine (hI _ _ _ _ _ HQ0.out.ri HQ1.out.ri).mono ?_
      rintro e w8 ⟨A2, k2, rfl, ho8, hb8⟩
      have HF8 := Lib.hid (HG7.out.push hb8 (rwC (w7.alloc (.cells #[.int .i64 s1, (.slice (some ⟨g7, 0, none⟩) l1.length l1.length)] 25)).heap.size w8.heap.size (.slice A2 L.length k2) L) (Nat.le_refl _) (Nat.le_refl _) ⟨ho8, ho8.lies⟩)
      clear hb8 ho8 HG7 HQ0 HQ1 x00 x01 x10 x11
      go_wp2_with fail
      have HM9 : Hid (OwnCh w8 w4.heap.size (.slice A1 L.length k1) L) := (HF8.out.get 5 rfl).1
      have HN9 : Hid (OwnCh w8 (w7.alloc (.cells #[.int .i64 s1, (.slice (some ⟨g7, 0, none⟩) l1.length l1.length)] 25)).heap.size (.slice A2 L.length k2) L) := (HF8.out.get 0 rfl).1
      refine (eqChs A2 A1 k2 k1 L _ HN9.out.r HM9.out.r (by omega)).mono ?_
      rintro e w9 ⟨rfl, hb9⟩
      have HF9 := Lib.hid (HF8.out.below hb9)
      clear hb9 HF8 HM9 HN9 
      obtain ⟨x0, x1, _, _⟩ := HF9.out.get 3 rfl
      obtain ⟨p0, p1, _, _⟩ := HF9.out.get 7 rfl
      go_wp2_with fail
      have HFd := Lib.hid HF9.out.drew
      have HT10 := Lib.hid (toGrid_any s0 a0 c0 l0 w9.drew (HR0.out.below' HFd.out.bel) (by omega))
      go_region_held3 (fun w' => w'.cell? ⟨w6.heap.size, 0, none⟩ = some (.int .i64 s0) ∧ w'.cell? ⟨w6.heap.size, 1, none⟩ = some ((.slice (some ⟨g6, 0, none⟩) l0.length l0.length)) ∧ w'.cell? ⟨(w.heap.size), 0, none⟩ = some (.int .i64 s0) ∧ w'.cell? ⟨(w.heap.size), 1, none⟩ = some (.slice a0 l0.length c0))
        (first
          | go_keep
          | exact hk11
          | exact hk10)
        (first
          | (go_at_call 28; refine (eqGrid_any s0 _ _ l0.length l0.length l0 w10 HQ0.out.ri ho10.ri (by omega)).mono ?_; rintro e w11 ⟨rfl, hb11⟩; have HF11 := Lib.hid (HF10.out.below hb11); have hk11 := And.intro (HF11.out.get 3 rfl : (GB w11 w6.heap.size s0 (.slice (some ⟨g6, 0, none⟩) l0.length l0.length))).c0 (And.intro (HF11.out.get 3 rfl : (GB w11 w6.heap.size s0 (.slice (some ⟨g6, 0, none⟩) l0.length l0.length))).c1 (And.intro (HF11.out.get 7 rfl : (GB w11 (w.heap.size) s0 (.slice a0 l0.length c0))).c0 ((HF11.out.get 7 rfl : (GB w11 (w.heap.size) s0 (.slice a0 l0.length c0))).c1))))
          | (go_at_call 26; refine HT10.out.mono ?_; rintro e w10 ⟨g10, rfl, ho10, hb10⟩; have HF10 := Lib.hid (HFd.out.below hb10); have HQ0 : Hid (OwnI 2 .i64 w10 w5.heap.size (.slice (some ⟨g6, 0, none⟩) l0.length l0.length) l0) := (HF10.out.get 4 rfl).1; have hk10 := And.intro (HF10.out.get 3 rfl : (GB w10 w6.heap.size s0 (.slice (some ⟨g6, 0, none⟩) l0.length l0.length))).c0 (And.intro (HF10.out.get 3 rfl : (GB w10 w6.heap.size s0 (.slice (some ⟨g6, 0, none⟩) l0.length l0.length))).c1 (And.intro (HF10.out.get 7 rfl : (GB w10 (w.heap.size) s0 (.slice a0 l0.length c0))).c0 ((HF10.out.get 7 rfl : (GB w10 (w.heap.size) s0 (.slice a0 l0.length c0))).c1)))))
      rename_i hheld
      clear hheld hk10 hk11 ho10 hb10 hb11 HT10 HF10 HFd HQ0 HF9 x0 x1 p0 p1
      obtain ⟨x0, x1, _, _⟩ := HF11.out.get 1 rfl
      obtain ⟨p0, p1, _, _⟩ := HF11.out.get 6 rfl
      go_wp2_with fail
      have HFd := Lib.hid HF11.out.drew
      have HT12 := Lib.hid (toGrid_any s1 a1 c1 l1 w11.drew (HR1.out.below' HFd.out.bel) (by omega))
      go_region_held3 (fun w' => w'.cell? ⟨w7.heap.size, 0, none⟩ = some (.int .i64 s1) ∧ w'.cell? ⟨w7.heap.size, 1, none⟩ = some ((.slice (some ⟨g7, 0, none⟩) l1.length l1.length)) ∧ w'.cell? ⟨(w.heap.size + 1), 0, none⟩ = some (.int .i64 s1) ∧ w'.cell? ⟨(w.heap.size + 1), 1, none⟩ = some (.slice a1 l1.length c1))
        (first
          | go_keep
          | exact hk13
          | exact hk12)
        (first
          | (go_at_call 28; refine (eqGrid_any s1 _ _ l1.length l1.length l1 w12 HQ1.out.ri ho12.ri (by omega)).mono ?_; rintro e w13 ⟨rfl, hb13⟩; have HF13 := Lib.hid (HF12.out.below hb13); have hk13 := And.intro (HF13.out.get 1 rfl : (GB w13 w7.heap.size s1 (.slice (some ⟨g7, 0, none⟩) l1.length l1.length))).c0 (And.intro (HF13.out.get 1 rfl : (GB w13 w7.heap.size s1 (.slice (some ⟨g7, 0, none⟩) l1.length l1.length))).c1 (And.intro (HF13.out.get 6 rfl : (GB w13 (w.heap.size + 1) s1 (.slice a1 l1.length c1))).c0 ((HF13.out.get 6 rfl : (GB w13 (w.heap.size + 1) s1 (.slice a1 l1.length c1))).c1))))
          | (go_at_call 26; refine HT12.out.mono ?_; rintro e w12 ⟨g12, rfl, ho12, hb12⟩; have HF12 := Lib.hid (HFd.out.below hb12); have HQ1 : Hid (OwnI 2 .i64 w12 (w6.alloc (.cells #[.int .i64 s0, (.slice (some ⟨g6, 0, none⟩) l0.length l0.length)] 25)).heap.size (.slice (some ⟨g7, 0, none⟩) l1.length l1.length) l1) := (HF12.out.get 2 rfl).1; have hk12 := And.intro (HF12.out.get 1 rfl : (GB w12 w7.heap.size s1 (.slice (some ⟨g7, 0, none⟩) l1.length l1.length))).c0 (And.intro (HF12.out.get 1 rfl : (GB w12 w7.heap.size s1 (.slice (some ⟨g7, 0, none⟩) l1.length l1.length))).c1 (And.intro (HF12.out.get 6 rfl : (GB w12 (w.heap.size + 1) s1 (.slice a1 l1.length c1))).c0 ((HF12.out.get 6 rfl : (GB w12 (w.heap.size + 1) s1 (.slice a1 l1.length c1))).c1)))))
      rename_i hheld
      clear hheld hk12 hk13 ho12 hb12 hb13 HT12 HF12 HFd HQ1 HF11 x0 x1 p0 p1
      obtain ⟨x0, x1, _, _⟩ := HF13.out.get 3 rfl
      go_wp2_with fail
      have HQ0 : Hid (OwnI 2 .i64 w13 w5.heap.size (.slice (some ⟨g6, 0, none⟩) l0.length l0.length) l0) := (HF13.out.get 4 rfl).1
      have HL0 : Hid (Lies (.slice (some ⟨g6, 0, none⟩) l0.length l0.length) w5.heap.size w6.heap.size) := (HF13.out.get 4 rfl).2
      refine (markGrid_any s0 _ l0.length w5.heap.size (1) l0 _ HQ0.out (by omega) (by omega)).mono ?_
      rintro e w14 ⟨rfl, ho, hg⟩
      have HF14 : Hid (St w [(rwC (w7.alloc (.cells #[.int .i64 s1, (.slice (some ⟨g7, 0, none⟩) l1.length l1.length)] 25)).heap.size w8.heap.size (.slice A2 L.length k2) L), (bxG w7.heap.size s1 (.slice (some ⟨g7, 0, none⟩) l1.length l1.length)), (rwI (w6.alloc (.cells #[.int .i64 s0, (.slice (some ⟨g6, 0, none⟩) l0.length l0.length)] 25)).heap.size w7.heap.size (.slice (some ⟨g7, 0, none⟩) l1.length l1.length) l1), (bxG w6.heap.size s0 (.slice (some ⟨g6, 0, none⟩) l0.length l0.length)), (rwI w5.heap.size w6.heap.size (.slice (some ⟨g6, 0, none⟩) l0.length l0.length) (marks (1) l0.length)), (rwC w4.heap.size w5.heap.size (.slice A1 L.length k1) L), (bxG (w.heap.size + 1) s1 (.slice a1 l1.length c1)), (bxG (w.heap.size) s0 (.slice a0 l0.length c0))] w14) := HF13.out.turn 4 (rwI w5.heap.size w6.heap.size (.slice (some ⟨g6, 0, none⟩) l0.length l0.length) (marks (1) l0.length)) rfl rfl rfl (Only.grown hg HL0.out) ⟨ho, HL0.out⟩
      clear ho hg HQ0 HL0 HF13 x0 x1
      obtain ⟨x0, x1, _, _⟩ := HF14.out.get 1 rfl
      go_wp2_with fail
      have HQ1 : Hid (OwnI 2 .i64 w14 (w6.alloc (.cells #[.int .i64 s0, (.slice (some ⟨g6, 0, none⟩) l0.length l0.length)] 25)).heap.size (.slice (some ⟨g7, 0, none⟩) l1.length l1.length) l1) := (HF14.out.get 2 rfl).1
      have HL1 : Hid (Lies (.slice (some ⟨g7, 0, none⟩) l1.length l1.length) (w6.alloc (.cells #[.int .i64 s0, (.slice (some ⟨g6, 0, none⟩) l0.length l0.length)] 25)).heap.size w7.heap.size) := (HF14.out.get 2 rfl).2
      refine (markGrid_any s1 _ l1.length (w6.alloc (.cells #[.int .i64 s0, (.slice (some ⟨g6, 0, none⟩) l0.length l0.length)] 25)).heap.size (1 + l0.length) l1 _ HQ1.out (by omega) (by omega)).mono ?_
      rintro e w15 ⟨rfl, ho, hg⟩
      have HF15 : Hid (St w [(rwC (w7.alloc (.cells #[.int .i64 s1, (.slice (some ⟨g7, 0, none⟩) l1.length l1.length)] 25)).heap.size w8.heap.size (.slice A2 L.length k2) L), (bxG w7.heap.size s1 (.slice (some ⟨g7, 0, none⟩) l1.length l1.length)), (rwI (w6.alloc (.cells #[.int .i64 s0, (.slice (some ⟨g6, 0, none⟩) l0.length l0.length)] 25)).heap.size w7.heap.size (.slice (some ⟨g7, 0, none⟩) l1.length l1.length) (marks (1 + l0.length) l1.length)), (bxG w6.heap.size s0 (.slice (some ⟨g6, 0, none⟩) l0.length l0.length)), (rwI w5.heap.size w6.heap.size (.slice (some ⟨g6, 0, none⟩) l0.length l0.length) (marks (1) l0.length)), (rwC w4.heap.size w5.heap.size (.slice A1 L.length k1) L), (bxG (w.heap.size + 1) s1 (.slice a1 l1.length c1)), (bxG (w.heap.size) s0 (.slice a0 l0.length c0))] w15) := HF14.out.turn 2 (rwI (w6.alloc (.cells #[.int .i64 s0, (.slice (some ⟨g6, 0, none⟩) l0.length l0.length)] 25)).heap.size w7.heap.size (.slice (some ⟨g7, 0, none⟩) l1.length l1.length) (marks (1 + l0.length) l1.length)) rfl rfl rfl (Only.grown hg HL1.out) ⟨ho, HL1.out⟩
      clear ho hg HQ1 HL1 HF14 x0 x1
      go_wp2_with fail
      have HM16 : Hid (OwnCh w15 w4.heap.size (.slice A1 L.length k1) L) := (HF15.out.get 5 rfl).1
      have HN16 : Hid (OwnCh w15 (w7.alloc (.cells #[.int .i64 s1, (.slice (some ⟨g7, 0, none⟩) l1.length l1.length)] 25)).heap.size (.slice A2 L.length k2) L) := (HF15.out.get 0 rfl).1
      refine (eqChs A2 A1 k2 k1 L _ HN16.out.r HM16.out.r (by omega)).mono ?_
      rintro e w16 ⟨rfl, hb16⟩
      have HF16 := Lib.hid (HF15.out.below hb16)
      clear hb16 HF15 HM16 HN16 
      go_wp2_with fail
      have HN : Hid (OwnCh w16 (w7.alloc (.cells #[.int .i64 s1, (.slice (some ⟨g7, 0, none⟩) l1.length l1.length)] 25)).heap.size (.slice A2 L.length k2) L) := (HF16.out.get 0 rfl).1
      have HLg : Hid (Lies (.slice A2 L.length k2) (w7.alloc (.cells #[.int .i64 s1, (.slice (some ⟨g7, 0, none⟩) l1.length l1.length)] 25)).heap.size w8.heap.size) := (HF16.out.get 0 rfl).2
      refine (markChs A2 k2 (w7.alloc (.cells #[.int .i64 s1, (.slice (some ⟨g7, 0, none⟩) l1.length l1.length)] 25)).heap.size 1 L _ HN.out (by omega) (by omega)).mono ?_
      rintro e w17 ⟨rfl, ho, hg, _⟩
      have HF17 : Hid (St w [(rwC (w7.alloc (.cells #[.int .i64 s1, (.slice (some ⟨g7, 0, none⟩) l1.length l1.length)] 25)).heap.size w8.heap.size (.slice A2 L.length k2) (marksCh 1 L.length)), (bxG w7.heap.size s1 (.slice (some ⟨g7, 0, none⟩) l1.length l1.length)), (rwI (w6.alloc (.cells #[.int .i64 s0, (.slice (some ⟨g6, 0, none⟩) l0.length l0.length)] 25)).heap.size w7.heap.size (.slice (some ⟨g7, 0, none⟩) l1.length l1.length) (marks (1 + l0.length) l1.length)), (bxG w6.heap.size s0 (.slice (some ⟨g6, 0, none⟩) l0.length l0.length)), (rwI w5.heap.size w6.heap.size (.slice (some ⟨g6, 0, none⟩) l0.length l0.length) (marks (1) l0.length)), (rwC w4.heap.size w5.heap.size (.slice A1 L.length k1) L), (bxG (w.heap.size + 1) s1 (.slice a1 l1.length c1)), (bxG (w.heap.size) s0 (.slice a0 l0.length c0))] w17) := HF16.out.turn 0 (rwC (w7.alloc (.cells #[.int .i64 s1, (.slice (some ⟨g7, 0, none⟩) l1.length l1.length)] 25)).heap.size w8.heap.size (.slice A2 L.length k2) (marksCh 1 L.length)) rfl rfl rfl (Only.grown hg HLg.out) ⟨ho, HLg.out⟩
      clear ho hg HN HLg HF16 
      go_wp2_with fail
      have HN : Hid (OwnCh w17 (w7.alloc (.cells #[.int .i64 s1, (.slice (some ⟨g7, 0, none⟩) l1.length l1.length)] 25)).heap.size (.slice A2 L.length k2) (marksCh 1 L.length)) := (HF17.out.get 0 rfl).1
      refine (heldChs_b A2 k2 1 L.length _ HN.out.r (by omega) (by omega)).mono ?_
      rintro e w18 ⟨rfl, hb18⟩
      have HF18 := Lib.hid (HF17.out.below hb18)
      clear hb18 HN HF17 
      obtain ⟨p00, p01, _, _⟩ := HF18.out.get 7 rfl
      obtain ⟨p10, p11, _, _⟩ := HF18.out.get 6 rfl
      go_wp2_with fail
      have HFd := Lib.hid HF18.out.drew
      have HT19 := Lib.hid (toGrid_any s0 a0 c0 l0 w18.drew (HR0.out.below' HFd.out.bel) (by omega))
      go_region_held3 (fun w' => w'.cell? ⟨(w.heap.size), 0, none⟩ = some (.int .i64 s0) ∧ w'.cell? ⟨(w.heap.size), 1, none⟩ = some (.slice a0 l0.length c0) ∧ w'.cell? ⟨(w.heap.size + 1), 0, none⟩ = some (.int .i64 s1) ∧ w'.cell? ⟨(w.heap.size + 1), 1, none⟩ = some (.slice a1 l1.length c1))
        (first
          | go_keep
          | exact hk21
          | exact hk20
          | exact hk19)
        (first
          | (go_at_call 10; refine (hI _ _ _ _ w20 HO20_0.out.ri HO20_1.out.ri).mono ?_; rintro e w21 ⟨A3, k3, rfl, ho21, hb21⟩; have HF21 := Lib.hid (HF20.out.below hb21); have hk21 := And.intro (HF21.out.get 7 rfl : (GB w21 (w.heap.size) s0 (.slice a0 l0.length c0))).c0 (And.intro (HF21.out.get 7 rfl : (GB w21 (w.heap.size) s0 (.slice a0 l0.length c0))).c1 (And.intro (HF21.out.get 6 rfl : (GB w21 (w.heap.size + 1) s1 (.slice a1 l1.length c1))).c0 (HF21.out.get 6 rfl : (GB w21 (w.heap.size + 1) s1 (.slice a1 l1.length c1))).c1)))
          | (go_at_call 26; refine (toGrid_any s1 a1 c1 l1 w19 (HR1.out.below' HF19.out.bel) (by omega)).mono ?_; rintro e w20 ⟨g20, rfl, ho20, hb20⟩; have HF20 := Lib.hid (HF19.out.below hb20); have HO20_0 := Lib.hid (HO19_0.out.keep hb20); have HO20_1 := Lib.hid ho20; have hk20 := And.intro (HF20.out.get 7 rfl : (GB w20 (w.heap.size) s0 (.slice a0 l0.length c0))).c0 (And.intro (HF20.out.get 7 rfl : (GB w20 (w.heap.size) s0 (.slice a0 l0.length c0))).c1 (And.intro (HF20.out.get 6 rfl : (GB w20 (w.heap.size + 1) s1 (.slice a1 l1.length c1))).c0 (HF20.out.get 6 rfl : (GB w20 (w.heap.size + 1) s1 (.slice a1 l1.length c1))).c1)))
          | (go_at_call 26; refine HT19.out.mono ?_; rintro e w19 ⟨g19, rfl, ho19, hb19⟩; have HF19 := Lib.hid (HFd.out.below hb19); have HO19_0 := Lib.hid ho19; have hk19 := And.intro (HF19.out.get 7 rfl : (GB w19 (w.heap.size) s0 (.slice a0 l0.length c0))).c0 (And.intro (HF19.out.get 7 rfl : (GB w19 (w.heap.size) s0 (.slice a0 l0.length c0))).c1 (And.intro (HF19.out.get 6 rfl : (GB w19 (w.heap.size + 1) s1 (.slice a1 l1.length c1))).c0 (HF19.out.get 6 rfl : (GB w19 (w.heap.size + 1) s1 (.slice a1 l1.length c1))).c1))))
      rename_i hheld
      have HOr21 := Lib.hid ho21
      clear hheld hk21 hb21 HFd HT19 HF18 hk19 ho19 hb19 HF19 HO19_0 hk20 ho20 hb20 HF20 HO20_0 HO20_1 p00 p01 p10 p11 ho21
      go_wp2_with fail
      have HM22 : Hid (OwnCh w21 w4.heap.size (.slice A1 L.length k1) L) := (HF21.out.get 5 rfl).1
      refine (eqChs A3 A1 k3 k1 L _ HOr21.out.r HM22.out.r (by omega)).mono ?_
      rintro e w22 ⟨rfl, hb22⟩
      have HF22 := Lib.hid (HF21.out.below hb22)
      clear hb22 HF21 HM22 HOr21 
      go_wp2_with fail
      have HN : Hid (OwnCh w22 (w7.alloc (.cells #[.int .i64 s1, (.slice (some ⟨g7, 0, none⟩) l1.length l1.length)] 25)).heap.size (.slice A2 L.length k2) (marksCh 1 L.length)) := (HF22.out.get 0 rfl).1
      refine (heldChs_b A2 k2 1 L.length _ HN.out.r (by omega) (by omega)).mono ?_
      rintro e w23 ⟨rfl, hb23⟩
      have HF23 := Lib.hid (HF22.out.below hb23)
      clear hb23 HN HF22 
      go_wp2
      go_ret
      exact ⟨rfl, HF23.out.bel⟩
    · rw [if_neg hl1] at hsz1
      go_enter Try.func5, Try.ntmps5
      go_wp2_with fail
      refine (hsz0 _).mono ?_
      rintro e w1 ⟨rfl, hb1⟩
      have HF1 := Lib.hid (HF0.out.below hb1)
      clear hb1 HF0 
      obtain ⟨p10, p11, _, _⟩ := HF1.out.get 0 rfl
      go_wp2_with fail
      refine (hsz1 _).mono ?_
      rintro e w2 ⟨rfl, hb2⟩
      have HF2 := Lib.hid (HF1.out.below hb2)
      clear hb2 HF1 p10 p11
      go_wp2
      go_ret
      exact ⟨rfl, HF2.out.bel⟩
  · rw [if_neg hl0] at hsz0
    go_enter Try.func5, Try.ntmps5
    go_wp2_with fail
    refine (hsz0 _).mono ?_
    rintro e w1 ⟨rfl, hb1⟩
    have HF1 := Lib.hid (HF0.out.below hb1)
    clear hb1 HF0 
    go_wp2
    go_ret
    exact ⟨rfl, HF1.out.bel⟩

set_option maxRecDepth 100000 in
theorem lifted (os : Os) (started : os.Started) (H : Type) (enc : TypeId × Value → H) :
    ReturnsInHanded {} Try.checked os 5 .any (Rows.fnExactDiffOfSpec.pre6 enc Try.prog Try.f5 Rows.fnExactDiffOfRow.domain false) (Rows.fnExactDiffOfSpec.post enc Try.prog Try.f5 false true false false) := by
  refine returnsInHanded_of_change (C := Try.checked) own started (by kernel_rfl) Try.func5
    (ChangeSpec.witness6 (enc := enc) (C := Try.checked) false ⟨#[], #[.agg #[.int .i64 0, .slice none 0 0], .agg #[.int .i64 0, .slice none 0 0]], []⟩ 8 (by kernel_rfl) (by kernel_rfl) (by kernel_rfl) (by kernel_rfl)) ?_
  intro W base args ds gs before hval0 hW hcnd _
  have hval : ∀ (j : Nat) t v, Try.f5.params[j]? = some t → args[j]? = some v → Value.okWide Try.prog W .any base t v := hval0
  have hW' := hW
  obtain ⟨p, q, hA0, hV, rfl, hfz, hnd⟩ := hW
  have hA : DataW.TrodAll enc Try.prog W 0 (fun _ => true) true Try.f5.params.toList args.toList ds p := hA0
  rw [Try.params5] at hA hval
  obtain ⟨v0, vs0, d0, ds0, p0, q0, hargs, rfl, rfl, h0, r0⟩ := trodAll_cons hA
  obtain ⟨v1, vs1, d1, ds1, p1, q1, rfl, rfl, rfl, h1, r1⟩ := trodAll_cons r0
  obtain ⟨rfl, rfl, rfl⟩ := trodAll_nil r1
  obtain rfl : args = #[v0, v1] := by cases args; simp_all
  obtain ⟨rfl, rfl⟩ := trodVars_none hV
  have k0 := h0
  have lt0 : ∀ x ∈ p0, x.block < W.heap.size := by obtain ⟨m, hm⟩ := k0; exact DataW.trod_lt m _ _ _ hm
  obtain ⟨side0, a0, cap0, z0, rfl, w0⟩ := open_grid (hval 0 48 v0 rfl rfl) h0
  have k1 := h1
  have lt1 : ∀ x ∈ p1, x.block < W.heap.size := by obtain ⟨m, hm⟩ := k1; exact DataW.trod_lt m _ _ _ hm
  obtain ⟨side1, a1, cap1, z1, rfl, w1⟩ := open_grid (hval 1 48 v1 rfl rfl) h1
  clear hA0 hval0
  refine (walk side0 a0 cap0 z0 side1 a1 cap1 z1 W w0 w1).mono fun e W' ⟨he, bel⟩ => ?_
  subst he
  exact ⟨_, rfl, _, _, _, [], _, [], hW', trodAll_mk1 (shut_bool Try.underlying4 _), (trodAll_cons_mk (Below.trod laidOut (by kernel_rfl) (of_decide_eq_true (by kernel_rfl)) k0 bel lt0) (trodAll_cons_mk (Below.trod laidOut (by kernel_rfl) (of_decide_eq_true (by kernel_rfl)) k1 bel lt1) trodAll_mk0)), rfl, bel.frame _, fun h => by cases h⟩

theorem over : Rows.fnExactDiffOfRow.holds Try.pinned (OpenSpec.ofChange Rows.fnExactDiffOfSpec) :=
  OpenClaim.holds_of_wide 5 Try.f5 rfl rfl rfl rfl rfl rfl rfl ⟨rfl, rfl, rfl, rfl, rfl⟩ rfl rfl rfl rfl rfl (by kernel_rfl) Try.func5 (by kernel_rfl)
    (of_decide_eq_true (by kernel_rfl)) (by unfold Func.isWrapper; first | (rw [if_pos (by decide +kernel)]; kernel_rfl) | (rw [if_neg (by decide +kernel)]; exact ⟨rfl, rfl⟩))
    (fun os started H enc _ => lifted os started H enc)

end Go.Proofs.Ytjcgelkeegepnaa.fnExactDiffOf
namespace Go.Proofs.Ytjcgelkeegepnaa
/-- The statement. -/
theorem fnExactDiffOf_holds : Rows.FnExactDiffOfSaid := fnExactDiffOf.over
end Go.Proofs.Ytjcgelkeegepnaa
