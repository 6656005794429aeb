/- FnExactDiffDo: for every input the law returns true, and its arguments read as before. No condition beyond the row's own. -/
import Derived.Test.YtjcgelkeegepnaaRows
import Derived.WalkKit
import Derived.ProofKit
import Derived.OpenShut
import Derived.ShutString
import Derived.ChangeOld
import Derived.Below
import Derived.WalkSpells
import Derived.WalkLawsBesides
import Derived.Lib.Hide
import Derived.Test.YtjcgelkeegepnaaItems
import Derived.Test.YtjcgelkeegepnaaChO
import Derived.Test.YtjcgelkeegepnaaDdP
import Derived.Test.YtjcgelkeegepnaaGridO
namespace Go.Proofs.Ytjcgelkeegepnaa.fnExactDiffDo
open Go.ChangeShapes Go.WideShapes Go.ChangeAt Go.RowKit
open Go.ChangeMaps (open_string shut_string)
set_option linter.unusedVariables false

theorem own : ownKnob Try.prog.godebug = none := by kernel_rfl
theorem laidOut : laidOutB Try.prog = true := by kernel_rfl

set_option maxRecDepth 100000 in
set_option maxHeartbeats 1000000 in
theorem walk (s0 : Int) (a0 : Option Addr) (c0 : Nat) (l0 : List Int) (a1 : Option Addr) (c1 : Nat) (l1 : List Ch) (w : World) (h0 : InGrid w s0 a0 l0) (h1 : (RCh w w.heap.size a1 l1 ∧ l1.length ≤ maxLen ∧ ∀ n ∈ l1, n.Fits)) :
    Calls Try.prog 6 #[.agg #[.int .i64 s0, .slice a0 l0.length c0], .slice a1 l1.length c1] w fun e w' => e = .returned (.bool true) ∧ Below w.heap.size w w' := by
  have HR0 := Lib.hid h0.2.1
  have hlm0 := h0.2.2.1
  have HS0 := Lib.hid h0.nums
  have HR1 := Lib.hid h1.1
  have hlm1 := h1.2.1
  have HS1 := Lib.hid h1.2.2
  unfold maxLen at hlm0 hlm1
  clear h0 h1
  have HF0 : Hid (St w [(bxG (w.heap.size) s0 (.slice a0 l0.length c0))] (w.alloc (.cells #[.int .i64 s0, .slice a0 l0.length c0] 48))) := by
    have := ((St.start w).push ((Below.refl _ w).alloc (Nat.le_refl _) (.cells #[.int .i64 s0, .slice a0 l0.length c0] 48)) (bxG w.heap.size s0 (.slice a0 l0.length c0)) (Nat.le_refl _) (by simp [bxG]) (GB.made w s0 (.slice a0 l0.length c0) 48))
    exact this
  have hsz0 := fun w => szGrid_any s0 (1048576) a0 l0.length c0 w (by omega) (by decide) (by decide)
  by_cases hl0 : (l0.length : Int) ≤ 1048576
  · rw [if_pos hl0] at hsz0
    have hleft1 : (0 : Int) ≤ 1048576 - l0.length := by omega
    have hsz1 := fun w => szChs_b a1 l1.length c1 (1048576 - l0.length) w (by omega) hleft1 (by omega)
    by_cases hl1 : (l1.length : Int) ≤ 1048576 - l0.length
    · rw [if_pos hl1] at hsz1
      have hleft2 : (0 : Int) ≤ 1048576 - l0.length - l1.length := by omega
      have hM := fun A0 c0' A1 c1' w h0 h1 => mDiffDo_any s0 A0 c0' l0 A1 c1' l1 w h0 h1 (by omega) (by omega)
      have hI := fun A0 c0' A1 c1' w h0 h1 => pDiffDo_any s0 A0 c0' l0 A1 c1' l1 w h0 h1 (by omega) (by omega) HS1.out
      have hlen := doOut_len s0 l0 l1
      generalize doOut s0 l0 l1 = RES at *
      obtain ⟨C, S, L⟩ := RES
      simp only at hM hI hlen
      go_enter Try.func6, Try.ntmps6
      go_wp2_with fail
      refine (hsz0 _).mono ?_
      rintro e w1 ⟨rfl, hb1⟩
      have HF1 := Lib.hid (HF0.out.below hb1)
      clear hb1 HF0 
      go_wp2_with fail
      refine (hsz1 _).mono ?_
      rintro e w2 ⟨rfl, hb2⟩
      have HF2 := Lib.hid (HF1.out.below hb2)
      clear hb2 HF1 
      clear hsz0 hsz1
      obtain ⟨p0, p1, _, _⟩ := HF2.out.get 0 rfl
      go_wp2_with fail
      refine (toGrid_any s0 a0 c0 l0 _ (HR0.out.below' HF2.out.bel) (by omega)).mono ?_
      rintro e w3 ⟨g3, rfl, ho3, hb3⟩
      have HF3 := Lib.hid (HF2.out.below hb3)
      have HO3_0 := Lib.hid ho3
      clear hb3 ho3 HF2 p0 p1
      go_wp2_with fail
      refine (toChs_b a1 c1 l1 _ (HR1.out.below' HF3.out.bel) (by omega)).mono ?_
      rintro e w4 ⟨g4, rfl, ho4, hb4⟩
      have HF4 := Lib.hid (HF3.out.below hb4)
      have HO4_0 := Lib.hid (HO3_0.out.keep hb4)
      clear HO3_0
      have HO4_1 := Lib.hid ho4
      clear hb4 ho4 HF3 
      go_wp2_with fail
      refine (hM _ _ _ _ w4 HO4_0.out.ri HO4_1.out.r).mono ?_
      rintro e w5 ⟨A1, k1, rfl, ho5, hb5⟩
      have HF5 := Lib.hid (HF4.out.push hb5 (rwI w4.heap.size w5.heap.size (.slice A1 L.length k1) L) (Nat.le_refl _) (Nat.le_refl _) ⟨ho5, ho5.lies⟩)
      have HG5 := Lib.hid (HF5.out.push ((Below.refl _ w5).alloc (Nat.le_refl _) (.cells #[.int .i64 S, (.slice A1 L.length k1), .int .i64 C] 37)) (bxO w5.heap.size S (.slice A1 L.length k1) C) (Nat.le_refl _) (by simp [bxO]) (GC.made w5 S C (.slice A1 L.length k1) 37))
      clear HF5
      clear hb5 ho5 HF4 HO4_0 HO4_1
      obtain ⟨p0, p1, _, _⟩ := HG5.out.get 2 rfl
      go_wp2_with fail
      refine (toGrid_any s0 a0 c0 l0 _ (HR0.out.below' HG5.out.bel) (by omega)).mono ?_
      rintro e w6 ⟨g6, rfl, ho6, hb6⟩
      have HF6 := Lib.hid (HG5.out.push hb6 (rwI (w5.alloc (.cells #[.int .i64 S, (.slice A1 L.length k1), .int .i64 C] 37)).heap.size w6.heap.size (.slice (some ⟨g6, 0, none⟩) l0.length l0.length) l0) (Nat.le_refl _) (Nat.le_refl _) ⟨ho6, ho6.lies⟩)
      have HG6 := Lib.hid (HF6.out.push ((Below.refl _ w6).alloc (Nat.le_refl _) (.cells #[.int .i64 s0, (.slice (some ⟨g6, 0, none⟩) l0.length l0.length)] 25)) (bxG w6.heap.size s0 (.slice (some ⟨g6, 0, none⟩) l0.length l0.length)) (Nat.le_refl _) (by simp [bxG]) (GB.made w6 s0 (.slice (some ⟨g6, 0, none⟩) l0.length l0.length) 25))
      clear HF6
      clear hb6 ho6 HG5 p0 p1
      go_wp2_with fail
      refine (toChs_b a1 c1 l1 _ (HR1.out.below' HG6.out.bel) (by omega)).mono ?_
      rintro e w7 ⟨g7, rfl, ho7, hb7⟩
      have HF7 := Lib.hid (HG6.out.push hb7 (rwC (w6.alloc (.cells #[.int .i64 s0, (.slice (some ⟨g6, 0, none⟩) l0.length l0.length)] 25)).heap.size w7.heap.size (.slice (some ⟨g7, 0, none⟩) l1.length l1.length) l1) (Nat.le_refl _) (Nat.le_refl _) ⟨ho7, ho7.lies⟩)
      clear hb7 ho7 HG6 
      obtain ⟨x00, x01, _, _⟩ := HF7.out.get 1 rfl
      go_wp2_with fail
      have HQ0 : Hid (OwnI 2 .i64 w7 (w5.alloc (.cells #[.int .i64 S, (.slice A1 L.length k1), .int .i64 C] 37)).heap.size (.slice (some ⟨g6, 0, none⟩) l0.length l0.length) l0) := (HF7.out.get 2 rfl).1
      have HQ1 : Hid (OwnCh w7 (w6.alloc (.cells #[.int .i64 s0, (.slice (some ⟨g6, 0, none⟩) l0.length l0.length)] 25)).heap.size (.slice (some ⟨g7, 0, none⟩) l1.length l1.length) l1) := (HF7.out.get 0 rfl).1
      refine (hI _ _ _ _ _ HQ0.out.ri HQ1.out.r).mono ?_
      rintro e w8 ⟨A2, k2, rfl, ho8, hb8⟩
      have HF8 := Lib.hid (HF7.out.push hb8 (rwI w7.heap.size w8.heap.size (.slice A2 L.length k2) L) (Nat.le_refl _) (Nat.le_refl _) ⟨ho8, ho8.lies⟩)
      have HG8 := Lib.hid (HF8.out.push ((Below.refl _ w8).alloc (Nat.le_refl _) (.cells #[.int .i64 S, (.slice A2 L.length k2), .int .i64 C] 37)) (bxO w8.heap.size S (.slice A2 L.length k2) C) (Nat.le_refl _) (by simp [bxO]) (GC.made w8 S C (.slice A2 L.length k2) 37))
      clear HF8
      clear hb8 ho8 HF7 HQ0 HQ1 x00 x01
      obtain ⟨q0, q1, q2⟩ := HG8.out.get 5 rfl
      obtain ⟨r0, r1, r2⟩ := HG8.out.get 0 rfl
      go_wp2_with fail
      have HM9 : Hid (OwnI 2 .i64 (w8.alloc (.cells #[.int .i64 S, (.slice A2 L.length k2), .int .i64 C] 37)) w4.heap.size (.slice A1 L.length k1) L) := (HG8.out.get 6 rfl).1
      have HN9 : Hid (OwnI 2 .i64 (w8.alloc (.cells #[.int .i64 S, (.slice A2 L.length k2), .int .i64 C] 37)) w7.heap.size (.slice A2 L.length k2) L) := (HG8.out.get 1 rfl).1
      refine (eqGridOut_any S C A2 A1 k2 k1 L _ HN9.out.ri HM9.out.ri (by omega)).mono ?_
      rintro e w9 ⟨rfl, hb9⟩
      have HF9 := Lib.hid (HG8.out.below hb9)
      clear hb9 HG8 HM9 HN9 q0 q1 q2 r0 r1 r2
      obtain ⟨x0, x1, _, _⟩ := HF9.out.get 3 rfl
      obtain ⟨p0, p1, _, _⟩ := HF9.out.get 7 rfl
      go_wp2_with fail
      have HFd := Lib.hid HF9.out.drew
      have HT10 := Lib.hid (toGrid_any s0 a0 c0 l0 w9.drew (HR0.out.below' HFd.out.bel) (by omega))
      go_region_held3 (fun w' => w'.cell? ⟨w6.heap.size, 0, none⟩ = some (.int .i64 s0) ∧ w'.cell? ⟨w6.heap.size, 1, none⟩ = some ((.slice (some ⟨g6, 0, none⟩) l0.length l0.length)) ∧ w'.cell? ⟨(w.heap.size), 0, none⟩ = some (.int .i64 s0) ∧ w'.cell? ⟨(w.heap.size), 1, none⟩ = some (.slice a0 l0.length c0))
        (first
          | go_keep
          | exact hk11
          | exact hk10)
        (first
          | (go_at_call 28; refine (eqGrid_any s0 _ _ l0.length l0.length l0 w10 HQ0.out.ri ho10.ri (by omega)).mono ?_; rintro e w11 ⟨rfl, hb11⟩; have HF11 := Lib.hid (HF10.out.below hb11); have hk11 := And.intro (HF11.out.get 3 rfl : (GB w11 w6.heap.size s0 (.slice (some ⟨g6, 0, none⟩) l0.length l0.length))).c0 (And.intro (HF11.out.get 3 rfl : (GB w11 w6.heap.size s0 (.slice (some ⟨g6, 0, none⟩) l0.length l0.length))).c1 (And.intro (HF11.out.get 7 rfl : (GB w11 (w.heap.size) s0 (.slice a0 l0.length c0))).c0 ((HF11.out.get 7 rfl : (GB w11 (w.heap.size) s0 (.slice a0 l0.length c0))).c1))))
          | (go_at_call 26; refine HT10.out.mono ?_; rintro e w10 ⟨g10, rfl, ho10, hb10⟩; have HF10 := Lib.hid (HFd.out.below hb10); have HQ0 : Hid (OwnI 2 .i64 w10 (w5.alloc (.cells #[.int .i64 S, (.slice A1 L.length k1), .int .i64 C] 37)).heap.size (.slice (some ⟨g6, 0, none⟩) l0.length l0.length) l0) := (HF10.out.get 4 rfl).1; have hk10 := And.intro (HF10.out.get 3 rfl : (GB w10 w6.heap.size s0 (.slice (some ⟨g6, 0, none⟩) l0.length l0.length))).c0 (And.intro (HF10.out.get 3 rfl : (GB w10 w6.heap.size s0 (.slice (some ⟨g6, 0, none⟩) l0.length l0.length))).c1 (And.intro (HF10.out.get 7 rfl : (GB w10 (w.heap.size) s0 (.slice a0 l0.length c0))).c0 ((HF10.out.get 7 rfl : (GB w10 (w.heap.size) s0 (.slice a0 l0.length c0))).c1)))))
      rename_i hheld
      clear hheld hk10 hk11 ho10 hb10 hb11 HT10 HF10 HFd HQ0 HF9 x0 x1 p0 p1
      go_wp2_with fail
      refine (toChs_b a1 c1 l1 _ (HR1.out.below' HF11.out.bel) (by omega)).mono ?_
      rintro e w12 ⟨g12, rfl, ho12, hb12⟩
      have HF12 := Lib.hid (HF11.out.below hb12)
      clear hb12 HF11
      go_wp2_with fail
      have HQ1 : Hid (OwnCh w12 (w6.alloc (.cells #[.int .i64 s0, (.slice (some ⟨g6, 0, none⟩) l0.length l0.length)] 25)).heap.size (.slice (some ⟨g7, 0, none⟩) l1.length l1.length) l1) := (HF12.out.get 2 rfl).1
      refine (eqChs _ _ l1.length l1.length l1 _ HQ1.out.r ho12.r (by omega)).mono ?_
      rintro e w13 ⟨rfl, hb13⟩
      have HF13 := Lib.hid (HF12.out.below hb13)
      clear hb13 ho12 HF12 HQ1
      obtain ⟨x0, x1, _, _⟩ := HF13.out.get 3 rfl
      go_wp2_with fail
      have HQ0 : Hid (OwnI 2 .i64 w13 (w5.alloc (.cells #[.int .i64 S, (.slice A1 L.length k1), .int .i64 C] 37)).heap.size (.slice (some ⟨g6, 0, none⟩) l0.length l0.length) l0) := (HF13.out.get 4 rfl).1
      have HL0 : Hid (Lies (.slice (some ⟨g6, 0, none⟩) l0.length l0.length) (w5.alloc (.cells #[.int .i64 S, (.slice A1 L.length k1), .int .i64 C] 37)).heap.size w6.heap.size) := (HF13.out.get 4 rfl).2
      refine (markGrid_any s0 _ l0.length (w5.alloc (.cells #[.int .i64 S, (.slice A1 L.length k1), .int .i64 C] 37)).heap.size (1) l0 _ HQ0.out (by omega) (by omega)).mono ?_
      rintro e w14 ⟨rfl, ho, hg⟩
      have HF14 : Hid (St w [(bxO w8.heap.size S (.slice A2 L.length k2) C), (rwI w7.heap.size w8.heap.size (.slice A2 L.length k2) L), (rwC (w6.alloc (.cells #[.int .i64 s0, (.slice (some ⟨g6, 0, none⟩) l0.length l0.length)] 25)).heap.size w7.heap.size (.slice (some ⟨g7, 0, none⟩) l1.length l1.length) l1), (bxG w6.heap.size s0 (.slice (some ⟨g6, 0, none⟩) l0.length l0.length)), (rwI (w5.alloc (.cells #[.int .i64 S, (.slice A1 L.length k1), .int .i64 C] 37)).heap.size w6.heap.size (.slice (some ⟨g6, 0, none⟩) l0.length l0.length) (marks (1) l0.length)), (bxO w5.heap.size S (.slice A1 L.length k1) C), (rwI w4.heap.size w5.heap.size (.slice A1 L.length k1) L), (bxG (w.heap.size) s0 (.slice a0 l0.length c0))] w14) := HF13.out.turn 4 (rwI (w5.alloc (.cells #[.int .i64 S, (.slice A1 L.length k1), .int .i64 C] 37)).heap.size w6.heap.size (.slice (some ⟨g6, 0, none⟩) l0.length l0.length) (marks (1) l0.length)) rfl rfl rfl (Only.grown hg HL0.out) ⟨ho, HL0.out⟩
      clear ho hg HQ0 HL0 HF13 x0 x1
      go_wp2_with fail
      have HQ1 : Hid (OwnCh w14 (w6.alloc (.cells #[.int .i64 s0, (.slice (some ⟨g6, 0, none⟩) l0.length l0.length)] 25)).heap.size (.slice (some ⟨g7, 0, none⟩) l1.length l1.length) l1) := (HF14.out.get 2 rfl).1
      have HL1 : Hid (Lies (.slice (some ⟨g7, 0, none⟩) l1.length l1.length) (w6.alloc (.cells #[.int .i64 s0, (.slice (some ⟨g6, 0, none⟩) l0.length l0.length)] 25)).heap.size w7.heap.size) := (HF14.out.get 2 rfl).2
      refine (markChs _ l1.length (w6.alloc (.cells #[.int .i64 s0, (.slice (some ⟨g6, 0, none⟩) l0.length l0.length)] 25)).heap.size (1 + l0.length) l1 _ HQ1.out (by omega) (by omega)).mono ?_
      rintro e w15 ⟨rfl, ho, hg, _⟩
      have HF15 : Hid (St w [(bxO w8.heap.size S (.slice A2 L.length k2) C), (rwI w7.heap.size w8.heap.size (.slice A2 L.length k2) L), (rwC (w6.alloc (.cells #[.int .i64 s0, (.slice (some ⟨g6, 0, none⟩) l0.length l0.length)] 25)).heap.size w7.heap.size (.slice (some ⟨g7, 0, none⟩) l1.length l1.length) (marksCh (1 + l0.length) l1.length)), (bxG w6.heap.size s0 (.slice (some ⟨g6, 0, none⟩) l0.length l0.length)), (rwI (w5.alloc (.cells #[.int .i64 S, (.slice A1 L.length k1), .int .i64 C] 37)).heap.size w6.heap.size (.slice (some ⟨g6, 0, none⟩) l0.length l0.length) (marks (1) l0.length)), (bxO w5.heap.size S (.slice A1 L.length k1) C), (rwI w4.heap.size w5.heap.size (.slice A1 L.length k1) L), (bxG (w.heap.size) s0 (.slice a0 l0.length c0))] w15) := HF14.out.turn 2 (rwC (w6.alloc (.cells #[.int .i64 s0, (.slice (some ⟨g6, 0, none⟩) l0.length l0.length)] 25)).heap.size w7.heap.size (.slice (some ⟨g7, 0, none⟩) l1.length l1.length) (marksCh (1 + l0.length) l1.length)) rfl rfl rfl (Only.grown hg HL1.out) ⟨ho, HL1.out⟩
      clear ho hg HQ1 HL1 HF14 
      obtain ⟨q0, q1, q2⟩ := HF15.out.get 5 rfl
      obtain ⟨r0, r1, r2⟩ := HF15.out.get 0 rfl
      go_wp2_with fail
      have HM16 : Hid (OwnI 2 .i64 w15 w4.heap.size (.slice A1 L.length k1) L) := (HF15.out.get 6 rfl).1
      have HN16 : Hid (OwnI 2 .i64 w15 w7.heap.size (.slice A2 L.length k2) L) := (HF15.out.get 1 rfl).1
      refine (eqGridOut_any S C A2 A1 k2 k1 L _ HN16.out.ri HM16.out.ri (by omega)).mono ?_
      rintro e w16 ⟨rfl, hb16⟩
      have HF16 := Lib.hid (HF15.out.below hb16)
      clear hb16 HF15 HM16 HN16 q0 q1 q2 r0 r1 r2
      obtain ⟨r0, r1, r2⟩ := HF16.out.get 0 rfl
      go_wp2_with fail
      have HN : Hid (OwnI 2 .i64 w16 w7.heap.size (.slice A2 L.length k2) L) := (HF16.out.get 1 rfl).1
      have HLg : Hid (Lies (.slice A2 L.length k2) w7.heap.size w8.heap.size) := (HF16.out.get 1 rfl).2
      refine (markGridOut_any S C A2 k2 w7.heap.size 1 L _ HN.out (by omega) (by omega)).mono ?_
      rintro e w17 ⟨rfl, ho, hg⟩
      have HF17 : Hid (St w [(bxO w8.heap.size S (.slice A2 L.length k2) C), (rwI w7.heap.size w8.heap.size (.slice A2 L.length k2) (marks 1 L.length)), (rwC (w6.alloc (.cells #[.int .i64 s0, (.slice (some ⟨g6, 0, none⟩) l0.length l0.length)] 25)).heap.size w7.heap.size (.slice (some ⟨g7, 0, none⟩) l1.length l1.length) (marksCh (1 + l0.length) l1.length)), (bxG w6.heap.size s0 (.slice (some ⟨g6, 0, none⟩) l0.length l0.length)), (rwI (w5.alloc (.cells #[.int .i64 S, (.slice A1 L.length k1), .int .i64 C] 37)).heap.size w6.heap.size (.slice (some ⟨g6, 0, none⟩) l0.length l0.length) (marks (1) l0.length)), (bxO w5.heap.size S (.slice A1 L.length k1) C), (rwI w4.heap.size w5.heap.size (.slice A1 L.length k1) L), (bxG (w.heap.size) s0 (.slice a0 l0.length c0))] w17) := HF16.out.turn 1 (rwI w7.heap.size w8.heap.size (.slice A2 L.length k2) (marks 1 L.length)) rfl rfl rfl (Only.grown hg HLg.out) ⟨ho, HLg.out⟩
      clear ho hg HN HLg HF16 r0 r1 r2
      obtain ⟨r0, r1, r2⟩ := HF17.out.get 0 rfl
      go_wp2_with fail
      have HN : Hid (OwnI 2 .i64 w17 w7.heap.size (.slice A2 L.length k2) (marks 1 L.length)) := (HF17.out.get 1 rfl).1
      refine (heldGridOut_any S C A2 k2 1 L.length _ HN.out.ri (by omega) (by omega)).mono ?_
      rintro e w18 ⟨rfl, hb18⟩
      have HF18 := Lib.hid (HF17.out.below hb18)
      clear hb18 HN HF17 r0 r1 r2
      obtain ⟨p0, p1, _, _⟩ := HF18.out.get 7 rfl
      go_wp2_with fail
      refine (toGrid_any s0 a0 c0 l0 _ (HR0.out.below' HF18.out.bel) (by omega)).mono ?_
      rintro e w19 ⟨g19, rfl, ho19, hb19⟩
      have HF19 := Lib.hid (HF18.out.below hb19)
      have HO19_0 := Lib.hid ho19
      clear hb19 ho19 HF18 p0 p1
      go_wp2_with fail
      refine (toChs_b a1 c1 l1 _ (HR1.out.below' HF19.out.bel) (by omega)).mono ?_
      rintro e w20 ⟨g20, rfl, ho20, hb20⟩
      have HF20 := Lib.hid (HF19.out.below hb20)
      have HO20_0 := Lib.hid (HO19_0.out.keep hb20)
      clear HO19_0
      have HO20_1 := Lib.hid ho20
      clear hb20 ho20 HF19 
      go_wp2_with fail
      refine (hI _ _ _ _ w20 HO20_0.out.ri HO20_1.out.r).mono ?_
      rintro e w21 ⟨A3, k3, rfl, ho21, hb21⟩
      have HF21 := Lib.hid (HF20.out.below hb21)
      have HOr21 := Lib.hid ho21
      have HG21 := Lib.hid (HF21.out.below ((Below.refl _ w21).alloc (Nat.le_refl _) (.cells #[.int .i64 S, (.slice A3 L.length k3), .int .i64 C] 37)))
      have HOs21 := Lib.hid (HOr21.out.alloc (.cells #[.int .i64 S, (.slice A3 L.length k3), .int .i64 C] 37))
      clear HF21 HOr21
      clear hb21 ho21 HF20 HO20_0 HO20_1
      obtain ⟨q0, q1, q2⟩ := HG21.out.get 5 rfl
      go_wp2_with fail
      have HM22 : Hid (OwnI 2 .i64 (w21.alloc (.cells #[.int .i64 S, (.slice A3 L.length k3), .int .i64 C] 37)) w4.heap.size (.slice A1 L.length k1) L) := (HG21.out.get 6 rfl).1
      refine (eqGridOut_any S C A3 A1 k3 k1 L _ HOs21.out.ri HM22.out.ri (by omega)).mono ?_
      rintro e w22 ⟨rfl, hb22⟩
      have HF22 := Lib.hid (HG21.out.below hb22)
      clear hb22 HG21 HM22 HOs21 q0 q1 q2
      obtain ⟨r0, r1, r2⟩ := HF22.out.get 0 rfl
      go_wp2_with fail
      have HN : Hid (OwnI 2 .i64 w22 w7.heap.size (.slice A2 L.length k2) (marks 1 L.length)) := (HF22.out.get 1 rfl).1
      refine (heldGridOut_any S C A2 k2 1 L.length _ HN.out.ri (by omega) (by omega)).mono ?_
      rintro e w23 ⟨rfl, hb23⟩
      have HF23 := Lib.hid (HF22.out.below hb23)
      clear hb23 HN HF22 r0 r1 r2
      go_wp2
      go_ret
      exact ⟨rfl, HF23.out.bel⟩
    · rw [if_neg hl1] at hsz1
      go_enter Try.func6, Try.ntmps6
      go_wp2_with fail
      refine (hsz0 _).mono ?_
      rintro e w1 ⟨rfl, hb1⟩
      have HF1 := Lib.hid (HF0.out.below hb1)
      clear hb1 HF0 
      go_wp2_with fail
      refine (hsz1 _).mono ?_
      rintro e w2 ⟨rfl, hb2⟩
      have HF2 := Lib.hid (HF1.out.below hb2)
      clear hb2 HF1 
      go_wp2
      go_ret
      exact ⟨rfl, HF2.out.bel⟩
  · rw [if_neg hl0] at hsz0
    go_enter Try.func6, Try.ntmps6
    go_wp2_with fail
    refine (hsz0 _).mono ?_
    rintro e w1 ⟨rfl, hb1⟩
    have HF1 := Lib.hid (HF0.out.below hb1)
    clear hb1 HF0 
    go_wp2
    go_ret
    exact ⟨rfl, HF1.out.bel⟩

set_option maxRecDepth 100000 in
theorem lifted (os : Os) (started : os.Started) (H : Type) (enc : TypeId × Value → H) :
    ReturnsInHanded {} Try.checked os 6 .any (Rows.fnExactDiffDoSpec.pre6 enc Try.prog Try.f6 Rows.fnExactDiffDoRow.domain false) (Rows.fnExactDiffDoSpec.post enc Try.prog Try.f6 false true false false) := by
  refine returnsInHanded_of_change (C := Try.checked) own started (by kernel_rfl) Try.func6
    (ChangeSpec.witness6 (enc := enc) (C := Try.checked) false ⟨#[], #[.agg #[.int .i64 0, .slice none 0 0], .slice none 0 0], []⟩ 8 (by kernel_rfl) (by kernel_rfl) (by kernel_rfl) (by kernel_rfl)) ?_
  intro W base args ds gs before hval0 hW hcnd _
  have hval : ∀ (j : Nat) t v, Try.f6.params[j]? = some t → args[j]? = some v → Value.okWide Try.prog W .any base t v := hval0
  have hW' := hW
  obtain ⟨p, q, hA0, hV, rfl, hfz, hnd⟩ := hW
  have hA : DataW.TrodAll enc Try.prog W 0 (fun _ => true) true Try.f6.params.toList args.toList ds p := hA0
  rw [Try.params6] at hA hval
  obtain ⟨v0, vs0, d0, ds0, p0, q0, hargs, rfl, rfl, h0, r0⟩ := trodAll_cons hA
  obtain ⟨v1, vs1, d1, ds1, p1, q1, rfl, rfl, rfl, h1, r1⟩ := trodAll_cons r0
  obtain ⟨rfl, rfl, rfl⟩ := trodAll_nil r1
  obtain rfl : args = #[v0, v1] := by cases args; simp_all
  obtain ⟨rfl, rfl⟩ := trodVars_none hV
  have k0 := h0
  have lt0 : ∀ x ∈ p0, x.block < W.heap.size := by obtain ⟨m, hm⟩ := k0; exact DataW.trod_lt m _ _ _ hm
  obtain ⟨side0, a0, cap0, z0, rfl, w0⟩ := open_grid (hval 0 48 v0 rfl rfl) h0
  have k1 := h1
  have lt1 : ∀ x ∈ p1, x.block < W.heap.size := by obtain ⟨m, hm⟩ := k1; exact DataW.trod_lt m _ _ _ hm
  obtain ⟨a1, cap1, z1, rfl, w1⟩ := openChs (hval 1 54 v1 rfl rfl) h1
  clear hA0 hval0
  refine (walk side0 a0 cap0 z0 a1 cap1 z1 W w0 w1).mono fun e W' ⟨he, bel⟩ => ?_
  subst he
  exact ⟨_, rfl, _, _, _, [], _, [], hW', trodAll_mk1 (shut_bool Try.underlying4 _), (trodAll_cons_mk (Below.trod laidOut (by kernel_rfl) (of_decide_eq_true (by kernel_rfl)) k0 bel lt0) (trodAll_cons_mk (Below.trod laidOut (by kernel_rfl) (of_decide_eq_true (by kernel_rfl)) k1 bel lt1) trodAll_mk0)), rfl, bel.frame _, fun h => by cases h⟩

theorem over : Rows.fnExactDiffDoRow.holds Try.pinned (OpenSpec.ofChange Rows.fnExactDiffDoSpec) :=
  OpenClaim.holds_of_wide 6 Try.f6 rfl rfl rfl rfl rfl rfl rfl ⟨rfl, rfl, rfl, rfl, rfl⟩ rfl rfl rfl rfl rfl (by kernel_rfl) Try.func6 (by kernel_rfl)
    (of_decide_eq_true (by kernel_rfl)) (by unfold Func.isWrapper; first | (rw [if_pos (by decide +kernel)]; kernel_rfl) | (rw [if_neg (by decide +kernel)]; exact ⟨rfl, rfl⟩))
    (fun os started H enc _ => lifted os started H enc)

end Go.Proofs.Ytjcgelkeegepnaa.fnExactDiffDo
namespace Go.Proofs.Ytjcgelkeegepnaa
/-- The statement. -/
theorem fnExactDiffDo_holds : Rows.FnExactDiffDoSaid := fnExactDiffDo.over
end Go.Proofs.Ytjcgelkeegepnaa
