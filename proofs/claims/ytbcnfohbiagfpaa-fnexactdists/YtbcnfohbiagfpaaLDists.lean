/- FnExactDists: for every input the law returns true, and its arguments read as before. No condition beyond the row's own. -/
import Derived.Test.YtbcnfohbiagfpaaRows
import Derived.WalkKit
import Derived.ProofKit
import Derived.OpenShut
import Derived.ShutString
import Derived.ChangeOld
import Derived.Below
import Derived.WalkSpells
import Derived.WalkLawsBesides
import Derived.Lib.Hide
import Derived.Test.YtbcnfohbiagfpaaWyDp
import Derived.Test.YtbcnfohbiagfpaaWyB
namespace Go.Proofs.Ytbcnfohbiagfpaa.fnExactDists
open Go.ChangeShapes Go.WideShapes Go.ChangeAt Go.RowKit
open Go.ChangeMaps (open_string shut_string)
set_option linter.unusedVariables false

theorem own : ownKnob Try.prog.godebug = none := by kernel_rfl
theorem laidOut : laidOutB Try.prog = true := by kernel_rfl

set_option maxRecDepth 100000 in
set_option maxHeartbeats 4000000 in
theorem walk (s0 : Int) (a0 : Option Addr) (c0 : Nat) (l0 : List Int) (X1 Y1 : Int) (w : World) (h0 : InGrid w s0 a0 l0) (h1 : ((Lit.int .i64 X1).wf = true ∧ (Lit.int .i64 Y1).wf = true)) :
    Calls Try.prog 6 #[.agg #[.int .i64 s0, .slice a0 l0.length c0], .agg #[.int .i64 X1, .int .i64 Y1]] w fun e w' => e = .returned (.bool true) ∧ Below w.heap.size w w' := by
  have HR0 := Lib.hid h0.2.1
  have hlm0 := h0.2.2.1
  have HS0 := Lib.hid h0.nums
  have HS1 := Lib.hid (And.intro (bounds_i64 h1.1) (bounds_i64 h1.2))
  unfold maxLen at hlm0
  clear h0 h1
  have HF0 : Hid (St w [(bxL (w.heap.size + 1) X1 Y1), (bxG (w.heap.size) s0 (.slice a0 l0.length c0))] ((w.alloc (.cells #[.int .i64 s0, .slice a0 l0.length c0] 53)).alloc (.cells #[.int .i64 X1, .int .i64 Y1] 71))) := by
    have := (((St.start w).push ((Below.refl _ w).alloc (Nat.le_refl _) (.cells #[.int .i64 s0, .slice a0 l0.length c0] 53)) (bxG w.heap.size s0 (.slice a0 l0.length c0)) (Nat.le_refl _) (by simp [bxG]) (GB.made w s0 (.slice a0 l0.length c0) 53)).push ((Below.refl _ (w.alloc (.cells #[.int .i64 s0, .slice a0 l0.length c0] 53))).alloc (Nat.le_refl _) (.cells #[.int .i64 X1, .int .i64 Y1] 71)) (bxL (w.alloc (.cells #[.int .i64 s0, .slice a0 l0.length c0] 53)).heap.size X1 Y1) (Nat.le_refl _) (by simp [bxL]) (PlB.made (w.alloc (.cells #[.int .i64 s0, .slice a0 l0.length c0] 53)) X1 Y1 71))
    simp only [alloc_size] at this
    exact this
  have hsz0 := fun w => szGrid_any s0 (1048576) a0 l0.length c0 w (by omega) (by decide) (by decide)
  by_cases hl0 : (l0.length : Int) ≤ 1048576
  · rw [if_pos hl0] at hsz0
    have hleft1 : (0 : Int) ≤ 1048576 - l0.length := by omega
    obtain ⟨d0, hd0⟩ := gdist_any s0 l0 X1 Y1
    have hM := fun A0 c0' w h0 => mDists_any s0 X1 Y1 A0 c0' l0 d0 w h0 (by omega) hd0
    have hI := fun A0 c0' w h0 => pDists_any s0 X1 Y1 A0 c0' l0 d0 w h0 (by omega) HS1.out.1 HS1.out.2 hd0
    have hlen := dOut_len s0 l0 X1 Y1 d0 hd0
    generalize dOut s0 l0 X1 Y1 d0 = L at *
    unfold NOut at hM hI
    clear hd0
    go_enter Try.func6, Try.ntmps6
    go_wp2_with fail
    refine (hsz0 _).mono ?_
    rintro e w1 ⟨rfl, hb1⟩
    have HF1 := Lib.hid (HF0.out.below hb1)
    clear hb1 HF0 
    clear hsz0
    obtain ⟨p00, p01, _, _⟩ := HF1.out.get 1 rfl
    obtain ⟨p10, p11⟩ := HF1.out.get 0 rfl
    go_wp2_with fail
    have HFd := Lib.hid HF1.out.drew
    have HT2 := Lib.hid (toGrid_any s0 a0 c0 l0 w1.drew (HR0.out.below' HFd.out.bel) (by omega))
    go_region_held3 (fun w' => w'.cell? ⟨(w.heap.size), 0, none⟩ = some (.int .i64 s0) ∧ w'.cell? ⟨(w.heap.size), 1, none⟩ = some (.slice a0 l0.length c0) ∧ w'.cell? ⟨(w.heap.size + 1), 0, none⟩ = some (.int .i64 X1) ∧ w'.cell? ⟨(w.heap.size + 1), 1, none⟩ = some (.int .i64 Y1))
      (first
        | go_keep
        | exact hk4
        | exact hk3
        | exact hk2)
      (first
        | (go_at_call 19; refine (hM _ l0.length w3 HO3_0.out.ri).mono ?_; rintro e w4 ⟨A1, k1, rfl, ho4, hb4⟩; have HF4 := Lib.hid (HF3.out.below hb4); have hk4 := And.intro (HF4.out.get 1 rfl : (GB w4 (w.heap.size) s0 (.slice a0 l0.length c0))).c0 (And.intro (HF4.out.get 1 rfl : (GB w4 (w.heap.size) s0 (.slice a0 l0.length c0))).c1 (And.intro (HF4.out.get 0 rfl : (PlB w4 (w.heap.size + 1) X1 Y1)).c0 (HF4.out.get 0 rfl : (PlB w4 (w.heap.size + 1) X1 Y1)).c1)))
        | (go_at_call 42; refine (toPl_v X1 Y1 w2).mono ?_; rintro e w3 ⟨rfl, hb3⟩; have HF3 := Lib.hid (HF2.out.below hb3); have HO3_0 := Lib.hid (HO2_0.out.keep hb3); have hk3 := And.intro (HF3.out.get 1 rfl : (GB w3 (w.heap.size) s0 (.slice a0 l0.length c0))).c0 (And.intro (HF3.out.get 1 rfl : (GB w3 (w.heap.size) s0 (.slice a0 l0.length c0))).c1 (And.intro (HF3.out.get 0 rfl : (PlB w3 (w.heap.size + 1) X1 Y1)).c0 (HF3.out.get 0 rfl : (PlB w3 (w.heap.size + 1) X1 Y1)).c1)))
        | (go_at_call 33; refine HT2.out.mono ?_; rintro e w2 ⟨g2, rfl, ho2, hb2⟩; have HF2 := Lib.hid (HFd.out.below hb2); have HO2_0 := Lib.hid ho2; have hk2 := And.intro (HF2.out.get 1 rfl : (GB w2 (w.heap.size) s0 (.slice a0 l0.length c0))).c0 (And.intro (HF2.out.get 1 rfl : (GB w2 (w.heap.size) s0 (.slice a0 l0.length c0))).c1 (And.intro (HF2.out.get 0 rfl : (PlB w2 (w.heap.size + 1) X1 Y1)).c0 (HF2.out.get 0 rfl : (PlB w2 (w.heap.size + 1) X1 Y1)).c1))))
    rename_i hheld
    have HG4 := Lib.hid (HF3.out.push hb4 (rwI w3.heap.size w4.heap.size (.slice A1 L.length k1) L) (Nat.le_refl _) (Nat.le_refl _) ⟨ho4, ho4.lies⟩)
    skip
    clear hheld hk4 hb4 HFd HT2 HF1 hk2 ho2 hb2 HF2 HO2_0 hk3 hb3 HF3 HO3_0 p00 p01 p10 p11 ho4 HF4
    obtain ⟨p0, p1, _, _⟩ := HG4.out.get 2 rfl
    go_wp2_with fail
    refine (toGrid_any s0 a0 c0 l0 _ (HR0.out.below' HG4.out.bel) (by omega)).mono ?_
    rintro e w5 ⟨g5, rfl, ho5, hb5⟩
    have HF5 := Lib.hid (HG4.out.push hb5 (rwI w4.heap.size w5.heap.size (.slice (some ⟨g5, 0, none⟩) l0.length l0.length) l0) (Nat.le_refl _) (Nat.le_refl _) ⟨ho5, ho5.lies⟩)
    have HG5 := Lib.hid (HF5.out.push ((Below.refl _ w5).alloc (Nat.le_refl _) (.cells #[.int .i64 s0, (.slice (some ⟨g5, 0, none⟩) l0.length l0.length)] 25)) (bxG w5.heap.size s0 (.slice (some ⟨g5, 0, none⟩) l0.length l0.length)) (Nat.le_refl _) (by simp [bxG]) (GB.made w5 s0 (.slice (some ⟨g5, 0, none⟩) l0.length l0.length) 25))
    clear HF5
    clear hb5 ho5 HG4 p0 p1
    obtain ⟨x00, x01, _, _⟩ := HG5.out.get 0 rfl
    obtain ⟨p10, p11⟩ := HG5.out.get 3 rfl
    go_wp2_with fail
    have HFd := Lib.hid HG5.out.drew
    have hkd := And.intro (HFd.out.get 0 rfl : (GB (w5.alloc (.cells #[.int .i64 s0, (.slice (some ⟨g5, 0, none⟩) l0.length l0.length)] 25)).drew w5.heap.size s0 (.slice (some ⟨g5, 0, none⟩) l0.length l0.length))).c0 (And.intro (HFd.out.get 0 rfl : (GB (w5.alloc (.cells #[.int .i64 s0, (.slice (some ⟨g5, 0, none⟩) l0.length l0.length)] 25)).drew w5.heap.size s0 (.slice (some ⟨g5, 0, none⟩) l0.length l0.length))).c1 (And.intro (HFd.out.get 3 rfl : (PlB (w5.alloc (.cells #[.int .i64 s0, (.slice (some ⟨g5, 0, none⟩) l0.length l0.length)] 25)).drew (w.heap.size + 1) X1 Y1)).c0 ((HFd.out.get 3 rfl : (PlB (w5.alloc (.cells #[.int .i64 s0, (.slice (some ⟨g5, 0, none⟩) l0.length l0.length)] 25)).drew (w.heap.size + 1) X1 Y1)).c1)))
    go_region_held3 (fun w' => w'.cell? ⟨w5.heap.size, 0, none⟩ = some (.int .i64 s0) ∧ w'.cell? ⟨w5.heap.size, 1, none⟩ = some ((.slice (some ⟨g5, 0, none⟩) l0.length l0.length)) ∧ w'.cell? ⟨(w.heap.size + 1), 0, none⟩ = some (.int .i64 X1) ∧ w'.cell? ⟨(w.heap.size + 1), 1, none⟩ = some (.int .i64 Y1))
      (first
        | with_reducible exact hk7
        | with_reducible exact hk6
        | with_reducible exact hkd
        | go_keep)
      (first
        | (go_at_call 15; have HQ0 : Hid (OwnI 2 .i64 w6 w4.heap.size (.slice (some ⟨g5, 0, none⟩) l0.length l0.length) l0) := (HF6.out.get 1 rfl).1; refine (hI _ l0.length w6 HQ0.out.ri).mono ?_; rintro e w7 ⟨A2, k2, rfl, ho7, hb7⟩; have HF7 := Lib.hid (HF6.out.below hb7); have hk7 := And.intro (HF7.out.get 0 rfl : (GB w7 w5.heap.size s0 (.slice (some ⟨g5, 0, none⟩) l0.length l0.length))).c0 (And.intro (HF7.out.get 0 rfl : (GB w7 w5.heap.size s0 (.slice (some ⟨g5, 0, none⟩) l0.length l0.length))).c1 (And.intro (HF7.out.get 3 rfl : (PlB w7 (w.heap.size + 1) X1 Y1)).c0 ((HF7.out.get 3 rfl : (PlB w7 (w.heap.size + 1) X1 Y1)).c1))))
        | (go_at_call 42; refine (toPl_v X1 Y1 _).mono ?_; rintro e w6 ⟨rfl, hb6⟩; have HF6 := Lib.hid (HFd.out.below hb6); have hk6 := And.intro (HF6.out.get 0 rfl : (GB w6 w5.heap.size s0 (.slice (some ⟨g5, 0, none⟩) l0.length l0.length))).c0 (And.intro (HF6.out.get 0 rfl : (GB w6 w5.heap.size s0 (.slice (some ⟨g5, 0, none⟩) l0.length l0.length))).c1 (And.intro (HF6.out.get 3 rfl : (PlB w6 (w.heap.size + 1) X1 Y1)).c0 ((HF6.out.get 3 rfl : (PlB w6 (w.heap.size + 1) X1 Y1)).c1)))))
    rename_i hheld
    have HG7 := Lib.hid (HF6.out.push hb7 (rwI w6.heap.size w7.heap.size (.slice A2 L.length k2) L) (Nat.le_refl _) (Nat.le_refl _) ⟨ho7, ho7.lies⟩)
    clear hheld hkd hk7 hb7 HFd HG5 hk6 hb6 HF6 HQ0 x00 x01 p10 p11 ho7 HF7
    go_wp2_with fail
    have HM8 : Hid (OwnI 2 .i64 w7 w3.heap.size (.slice A1 L.length k1) L) := (HG7.out.get 3 rfl).1
    have HN8 : Hid (OwnI 2 .i64 w7 w6.heap.size (.slice A2 L.length k2) L) := (HG7.out.get 0 rfl).1
    refine (eqInts_b A2 A1 k2 k1 L _ HN8.out.ri HM8.out.ri (by omega)).mono ?_
    rintro e w8 ⟨rfl, hb8⟩
    have HF8 := Lib.hid (HG7.out.below hb8)
    clear hb8 HG7 HM8 HN8 
    obtain ⟨x0, x1, _, _⟩ := HF8.out.get 1 rfl
    obtain ⟨p0, p1, _, _⟩ := HF8.out.get 5 rfl
    go_wp2_with fail
    have HFd := Lib.hid HF8.out.drew
    have HT9 := Lib.hid (toGrid_any s0 a0 c0 l0 w8.drew (HR0.out.below' HFd.out.bel) (by omega))
    go_region_held3 (fun w' => w'.cell? ⟨w5.heap.size, 0, none⟩ = some (.int .i64 s0) ∧ w'.cell? ⟨w5.heap.size, 1, none⟩ = some ((.slice (some ⟨g5, 0, none⟩) l0.length l0.length)) ∧ w'.cell? ⟨(w.heap.size), 0, none⟩ = some (.int .i64 s0) ∧ w'.cell? ⟨(w.heap.size), 1, none⟩ = some (.slice a0 l0.length c0))
      (first
        | go_keep
        | exact hk10
        | exact hk9)
      (first
        | (go_at_call 37; refine (eqGrid_any s0 _ _ l0.length l0.length l0 w9 HQ0.out.ri ho9.ri (by omega)).mono ?_; rintro e w10 ⟨rfl, hb10⟩; have HF10 := Lib.hid (HF9.out.below hb10); have hk10 := And.intro (HF10.out.get 1 rfl : (GB w10 w5.heap.size s0 (.slice (some ⟨g5, 0, none⟩) l0.length l0.length))).c0 (And.intro (HF10.out.get 1 rfl : (GB w10 w5.heap.size s0 (.slice (some ⟨g5, 0, none⟩) l0.length l0.length))).c1 (And.intro (HF10.out.get 5 rfl : (GB w10 (w.heap.size) s0 (.slice a0 l0.length c0))).c0 ((HF10.out.get 5 rfl : (GB w10 (w.heap.size) s0 (.slice a0 l0.length c0))).c1))))
        | (go_at_call 33; refine HT9.out.mono ?_; rintro e w9 ⟨g9, rfl, ho9, hb9⟩; have HF9 := Lib.hid (HFd.out.below hb9); have HQ0 : Hid (OwnI 2 .i64 w9 w4.heap.size (.slice (some ⟨g5, 0, none⟩) l0.length l0.length) l0) := (HF9.out.get 2 rfl).1; have hk9 := And.intro (HF9.out.get 1 rfl : (GB w9 w5.heap.size s0 (.slice (some ⟨g5, 0, none⟩) l0.length l0.length))).c0 (And.intro (HF9.out.get 1 rfl : (GB w9 w5.heap.size s0 (.slice (some ⟨g5, 0, none⟩) l0.length l0.length))).c1 (And.intro (HF9.out.get 5 rfl : (GB w9 (w.heap.size) s0 (.slice a0 l0.length c0))).c0 ((HF9.out.get 5 rfl : (GB w9 (w.heap.size) s0 (.slice a0 l0.length c0))).c1)))))
    rename_i hheld
    clear hheld hk9 hk10 ho9 hb9 hb10 HT9 HF9 HFd HQ0 HF8 x0 x1 p0 p1
    obtain ⟨x0, x1, _, _⟩ := HF10.out.get 1 rfl
    go_wp2_with fail
    have HQ0 : Hid (OwnI 2 .i64 w10 w4.heap.size (.slice (some ⟨g5, 0, none⟩) l0.length l0.length) l0) := (HF10.out.get 2 rfl).1
    have HL0 : Hid (Lies (.slice (some ⟨g5, 0, none⟩) l0.length l0.length) w4.heap.size w5.heap.size) := (HF10.out.get 2 rfl).2
    refine (markGrid_any s0 _ l0.length w4.heap.size (1) l0 _ HQ0.out (by omega) (by omega)).mono ?_
    rintro e w11 ⟨rfl, ho, hg⟩
    have HF11 : Hid (St w [(rwI w6.heap.size w7.heap.size (.slice A2 L.length k2) L), (bxG w5.heap.size s0 (.slice (some ⟨g5, 0, none⟩) l0.length l0.length)), (rwI w4.heap.size w5.heap.size (.slice (some ⟨g5, 0, none⟩) l0.length l0.length) (marks (1) l0.length)), (rwI w3.heap.size w4.heap.size (.slice A1 L.length k1) L), (bxL (w.heap.size + 1) X1 Y1), (bxG (w.heap.size) s0 (.slice a0 l0.length c0))] w11) := HF10.out.turn 2 (rwI w4.heap.size w5.heap.size (.slice (some ⟨g5, 0, none⟩) l0.length l0.length) (marks (1) l0.length)) rfl rfl rfl (Only.grown hg HL0.out) ⟨ho, HL0.out⟩
    clear ho hg HQ0 HL0 HF10 x0 x1
    go_wp2_with fail
    have HM12 : Hid (OwnI 2 .i64 w11 w3.heap.size (.slice A1 L.length k1) L) := (HF11.out.get 3 rfl).1
    have HN12 : Hid (OwnI 2 .i64 w11 w6.heap.size (.slice A2 L.length k2) L) := (HF11.out.get 0 rfl).1
    refine (eqInts_b A2 A1 k2 k1 L _ HN12.out.ri HM12.out.ri (by omega)).mono ?_
    rintro e w12 ⟨rfl, hb12⟩
    have HF12 := Lib.hid (HF11.out.below hb12)
    clear hb12 HF11 HM12 HN12 
    go_wp2_with fail
    have HN : Hid (OwnI 2 .i64 w12 w6.heap.size (.slice A2 L.length k2) L) := (HF12.out.get 0 rfl).1
    have HLg : Hid (Lies (.slice A2 L.length k2) w6.heap.size w7.heap.size) := (HF12.out.get 0 rfl).2
    refine (markInts A2 k2 w6.heap.size 1 L _ HN.out (by omega) (by omega)).mono ?_
    rintro e w13 ⟨rfl, ho, hg, _⟩
    have HF13 : Hid (St w [(rwI w6.heap.size w7.heap.size (.slice A2 L.length k2) (marks 1 L.length)), (bxG w5.heap.size s0 (.slice (some ⟨g5, 0, none⟩) l0.length l0.length)), (rwI w4.heap.size w5.heap.size (.slice (some ⟨g5, 0, none⟩) l0.length l0.length) (marks (1) l0.length)), (rwI w3.heap.size w4.heap.size (.slice A1 L.length k1) L), (bxL (w.heap.size + 1) X1 Y1), (bxG (w.heap.size) s0 (.slice a0 l0.length c0))] w13) := HF12.out.turn 0 (rwI w6.heap.size w7.heap.size (.slice A2 L.length k2) (marks 1 L.length)) rfl rfl rfl (Only.grown hg HLg.out) ⟨ho, HLg.out⟩
    clear ho hg HN HLg HF12 
    go_wp2_with fail
    have HN : Hid (OwnI 2 .i64 w13 w6.heap.size (.slice A2 L.length k2) (marks 1 L.length)) := (HF13.out.get 0 rfl).1
    refine (heldInts_b A2 k2 1 L.length _ HN.out.ri (by omega) (by omega)).mono ?_
    rintro e w14 ⟨rfl, hb14⟩
    have HF14 := Lib.hid (HF13.out.below hb14)
    clear hb14 HN HF13 
    obtain ⟨p00, p01, _, _⟩ := HF14.out.get 5 rfl
    obtain ⟨p10, p11⟩ := HF14.out.get 4 rfl
    go_wp2_with fail
    have HFd := Lib.hid HF14.out.drew
    have HT15 := Lib.hid (toGrid_any s0 a0 c0 l0 w14.drew (HR0.out.below' HFd.out.bel) (by omega))
    go_region_held3 (fun w' => w'.cell? ⟨(w.heap.size), 0, none⟩ = some (.int .i64 s0) ∧ w'.cell? ⟨(w.heap.size), 1, none⟩ = some (.slice a0 l0.length c0) ∧ w'.cell? ⟨(w.heap.size + 1), 0, none⟩ = some (.int .i64 X1) ∧ w'.cell? ⟨(w.heap.size + 1), 1, none⟩ = some (.int .i64 Y1))
      (first
        | go_keep
        | exact hk17
        | exact hk16
        | exact hk15)
      (first
        | (go_at_call 15; refine (hI _ l0.length w16 HO16_0.out.ri).mono ?_; rintro e w17 ⟨A3, k3, rfl, ho17, hb17⟩; have HF17 := Lib.hid (HF16.out.below hb17); have hk17 := And.intro (HF17.out.get 5 rfl : (GB w17 (w.heap.size) s0 (.slice a0 l0.length c0))).c0 (And.intro (HF17.out.get 5 rfl : (GB w17 (w.heap.size) s0 (.slice a0 l0.length c0))).c1 (And.intro (HF17.out.get 4 rfl : (PlB w17 (w.heap.size + 1) X1 Y1)).c0 (HF17.out.get 4 rfl : (PlB w17 (w.heap.size + 1) X1 Y1)).c1)))
        | (go_at_call 42; refine (toPl_v X1 Y1 w15).mono ?_; rintro e w16 ⟨rfl, hb16⟩; have HF16 := Lib.hid (HF15.out.below hb16); have HO16_0 := Lib.hid (HO15_0.out.keep hb16); have hk16 := And.intro (HF16.out.get 5 rfl : (GB w16 (w.heap.size) s0 (.slice a0 l0.length c0))).c0 (And.intro (HF16.out.get 5 rfl : (GB w16 (w.heap.size) s0 (.slice a0 l0.length c0))).c1 (And.intro (HF16.out.get 4 rfl : (PlB w16 (w.heap.size + 1) X1 Y1)).c0 (HF16.out.get 4 rfl : (PlB w16 (w.heap.size + 1) X1 Y1)).c1)))
        | (go_at_call 33; refine HT15.out.mono ?_; rintro e w15 ⟨g15, rfl, ho15, hb15⟩; have HF15 := Lib.hid (HFd.out.below hb15); have HO15_0 := Lib.hid ho15; have hk15 := And.intro (HF15.out.get 5 rfl : (GB w15 (w.heap.size) s0 (.slice a0 l0.length c0))).c0 (And.intro (HF15.out.get 5 rfl : (GB w15 (w.heap.size) s0 (.slice a0 l0.length c0))).c1 (And.intro (HF15.out.get 4 rfl : (PlB w15 (w.heap.size + 1) X1 Y1)).c0 (HF15.out.get 4 rfl : (PlB w15 (w.heap.size + 1) X1 Y1)).c1))))
    rename_i hheld
    have HOr17 := Lib.hid ho17
    clear hheld hk17 hb17 HFd HT15 HF14 hk15 ho15 hb15 HF15 HO15_0 hk16 hb16 HF16 HO16_0 p00 p01 p10 p11 ho17
    go_wp2_with fail
    have HM18 : Hid (OwnI 2 .i64 w17 w3.heap.size (.slice A1 L.length k1) L) := (HF17.out.get 3 rfl).1
    refine (eqInts_b A3 A1 k3 k1 L _ HOr17.out.ri HM18.out.ri (by omega)).mono ?_
    rintro e w18 ⟨rfl, hb18⟩
    have HF18 := Lib.hid (HF17.out.below hb18)
    clear hb18 HF17 HM18 HOr17 
    go_wp2_with fail
    have HN : Hid (OwnI 2 .i64 w18 w6.heap.size (.slice A2 L.length k2) (marks 1 L.length)) := (HF18.out.get 0 rfl).1
    refine (heldInts_b A2 k2 1 L.length _ HN.out.ri (by omega) (by omega)).mono ?_
    rintro e w19 ⟨rfl, hb19⟩
    have HF19 := Lib.hid (HF18.out.below hb19)
    clear hb19 HN HF18 
    go_wp2
    go_ret
    exact ⟨rfl, HF19.out.bel⟩
  · rw [if_neg hl0] at hsz0
    go_enter Try.func6, Try.ntmps6
    go_wp2_with fail
    refine (hsz0 _).mono ?_
    rintro e w1 ⟨rfl, hb1⟩
    have HF1 := Lib.hid (HF0.out.below hb1)
    clear hb1 HF0 
    go_wp2
    go_ret
    exact ⟨rfl, HF1.out.bel⟩

set_option maxRecDepth 100000 in
theorem lifted (os : Os) (started : os.Started) (H : Type) (enc : TypeId × Value → H) :
    ReturnsInHanded {} Try.checked os 6 .any (Rows.fnExactDistsSpec.pre6 enc Try.prog Try.f6 Rows.fnExactDistsRow.domain false) (Rows.fnExactDistsSpec.post enc Try.prog Try.f6 false true false false) := by
  refine returnsInHanded_of_change (C := Try.checked) own started (by kernel_rfl) Try.func6
    (ChangeSpec.witness6 (enc := enc) (C := Try.checked) false ⟨#[], #[.agg #[.int .i64 0, .slice none 0 0], .agg #[.int .i64 0, .int .i64 0]], []⟩ 8 (by kernel_rfl) (by kernel_rfl) (by kernel_rfl) (by kernel_rfl)) ?_
  intro W base args ds gs before hval0 hW hcnd _
  have hval : ∀ (j : Nat) t v, Try.f6.params[j]? = some t → args[j]? = some v → Value.okWide Try.prog W .any base t v := hval0
  have hW' := hW
  obtain ⟨p, q, hA0, hV, rfl, hfz, hnd⟩ := hW
  have hA : DataW.TrodAll enc Try.prog W 0 (fun _ => true) true Try.f6.params.toList args.toList ds p := hA0
  rw [Try.params6] at hA hval
  obtain ⟨v0, vs0, d0, ds0, p0, q0, hargs, rfl, rfl, h0, r0⟩ := trodAll_cons hA
  obtain ⟨v1, vs1, d1, ds1, p1, q1, rfl, rfl, rfl, h1, r1⟩ := trodAll_cons r0
  obtain ⟨rfl, rfl, rfl⟩ := trodAll_nil r1
  obtain rfl : args = #[v0, v1] := by cases args; simp_all
  obtain ⟨rfl, rfl⟩ := trodVars_none hV
  have k0 := h0
  have lt0 : ∀ x ∈ p0, x.block < W.heap.size := by obtain ⟨m, hm⟩ := k0; exact DataW.trod_lt m _ _ _ hm
  obtain ⟨side0, a0, cap0, z0, rfl, w0⟩ := open_grid (hval 0 53 v0 rfl rfl) h0
  have k1 := h1
  have lt1 : ∀ x ∈ p1, x.block < W.heap.size := by obtain ⟨m, hm⟩ := k1; exact DataW.trod_lt m _ _ _ hm
  obtain ⟨x1, y1, rfl, w1⟩ := open_pl (hval 1 71 v1 rfl rfl) h1
  clear hA0 hval0
  refine (walk side0 a0 cap0 z0 x1 y1 W w0 w1).mono fun e W' ⟨he, bel⟩ => ?_
  subst he
  exact ⟨_, rfl, _, _, _, [], _, [], hW', trodAll_mk1 (shut_bool Try.underlying4 _), (trodAll_cons_mk (Below.trod laidOut (by kernel_rfl) (of_decide_eq_true (by kernel_rfl)) k0 bel lt0) (trodAll_cons_mk (Below.trod laidOut (by kernel_rfl) (of_decide_eq_true (by kernel_rfl)) k1 bel lt1) trodAll_mk0)), rfl, bel.frame _, fun h => by cases h⟩

theorem over : Rows.fnExactDistsRow.holds Try.pinned (OpenSpec.ofChange Rows.fnExactDistsSpec) :=
  OpenClaim.holds_of_wide 6 Try.f6 rfl rfl rfl rfl rfl rfl rfl ⟨rfl, rfl, rfl, rfl, rfl⟩ rfl rfl rfl rfl rfl (by kernel_rfl) Try.func6 (by kernel_rfl)
    (of_decide_eq_true (by kernel_rfl)) (by unfold Func.isWrapper; first | (rw [if_pos (by decide +kernel)]; kernel_rfl) | (rw [if_neg (by decide +kernel)]; exact ⟨rfl, rfl⟩))
    (fun os started H enc _ => lifted os started H enc)

end Go.Proofs.Ytbcnfohbiagfpaa.fnExactDists
namespace Go.Proofs.Ytbcnfohbiagfpaa
/-- The statement. -/
theorem fnExactDists_holds : Rows.FnExactDistsSaid := fnExactDists.over
end Go.Proofs.Ytbcnfohbiagfpaa
