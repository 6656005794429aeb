/- FnExactSweep: for every input the law returns true, and its arguments read as before. No condition beyond the row's own. -/
import Derived.Test.YtoobkajilbmdhaaRows
import Derived.WalkKit
import Derived.ProofKit
import Derived.OpenShut
import Derived.ShutString
import Derived.ChangeOld
import Derived.Below
import Derived.WalkSpells
import Derived.WalkLawsBesides
import Derived.Lib.Hide
import Derived.Test.YtoobkajilbmdhaaSwQ
import Derived.Test.YtoobkajilbmdhaaSwM
import Derived.Test.YtoobkajilbmdhaaMWa
namespace Go.Proofs.Ytoobkajilbmdhaa.fnExactSweep
open Go.ChangeShapes Go.WideShapes Go.ChangeAt Go.RowKit
open Go.ChangeMaps (open_string shut_string)
set_option linter.unusedVariables false

theorem own : ownKnob Try.prog.godebug = none := by kernel_rfl
theorem laidOut : laidOutB Try.prog = true := by kernel_rfl

set_option maxRecDepth 100000 in
set_option maxHeartbeats 4000000 in
theorem walk (a0 : Option Addr) (c0 : Nat) (l0 : List Nd) (a1 : Option Addr) (c1 : Nat) (l1 : List Int) (w : World) (h0 : (RN w w.heap.size a0 l0 ∧ l0.length ≤ maxLen ∧ ∀ n ∈ l0, n.Fits)) (h1 : (RI w w.heap.size a1 l1 ∧ l1.length ≤ maxLen)) :
    Calls Try.prog 5 #[.agg #[.slice a0 l0.length c0], .slice a1 l1.length c1] w fun e w' => e = .returned (.bool true) ∧ Below w.heap.size w w' := by
  have HR0 := Lib.hid h0.1
  have hlm0 := h0.2.1
  have HS0 := Lib.hid h0.2.2
  have HR1 := Lib.hid h1.1
  have hlm1 := h1.2
  unfold maxLen at hlm0 hlm1
  clear h0 h1
  have HF0 : Hid (St w [(bxP (w.heap.size) (.slice a0 l0.length c0))] (w.alloc (.cells #[.slice a0 l0.length c0] 24))) := by
    have := ((St.start w).push ((Below.refl _ w).alloc (Nat.le_refl _) (.cells #[.slice a0 l0.length c0] 24)) (bxP w.heap.size (.slice a0 l0.length c0)) (Nat.le_refl _) (by simp [bxP]) (PB1.made w (.slice a0 l0.length c0) 24))
    exact this
  by_cases hl1 : (l1.length : Int) ≤ 1048576
  · have hd1 : decide ((1048576 : Int) < (l1.length : Int)) = false := decide_eq_false (by omega)
    have hsz0 := fun w => szPool_any (1048576) a0 l0.length c0 w (by omega) (by decide) (by decide)
    by_cases hl0 : (l0.length : Int) ≤ 1048576
    · rw [if_pos hl0] at hsz0
      have hleft1 : (0 : Int) ≤ 1048576 - l0.length := by omega
      have hM := fun A0 c0' A1 c1' w h0 h1 => mSweep_any A0 c0' l0 A1 c1' l1 w h0 h1 (by omega) (by omega)
      have hI := fun A0 (c0' : Nat) A1 c1' w h0 h1 => pSweep_any A0 l0.length l0 A1 c1' l1 w h0 h1 (by omega) (Nat.le_refl _) HS0.out (by omega)
      have hlen := sweepO_len (l := l0) l1
      generalize sweepO l0 l1 = RES at *
      unfold SOut at hM hI
      obtain ⟨C, T, L⟩ := RES
      simp only at hM hI hlen
      have hlen2 := hlen.2
      have hlen := hlen.1
      go_enter Try.func5, Try.ntmps5
      go_wp2_with fail
      refine (hsz0 _).mono ?_
      rintro e w1 ⟨rfl, hb1⟩
      have HF1 := Lib.hid (HF0.out.below hb1)
      clear hb1 HF0 
      clear hsz0
      obtain ⟨p0, _⟩ := HF1.out.get 0 rfl
      go_wp2_with fail
      refine (toPool_any a0 c0 l0 _ (HR0.out.below' HF1.out.bel) (by omega)).mono ?_
      rintro e w2 ⟨g2, rfl, ho2, hb2⟩
      have HF2 := Lib.hid (HF1.out.below hb2)
      have HO2_0 := Lib.hid ho2
      clear hb2 ho2 HF1 p0
      go_wp2_with fail
      refine (toI_b a1 c1 l1 _ (HR1.out.below' HF2.out.bel) (by omega)).mono ?_
      rintro e w3 ⟨g3, rfl, ho3, hb3⟩
      have HF3 := Lib.hid (HF2.out.below hb3)
      have HO3_0 := Lib.hid (HO2_0.out.keep hb3)
      clear HO2_0
      have HO3_1 := Lib.hid ho3
      clear hb3 ho3 HF2 
      go_wp2_with fail
      refine (hM _ l0.length _ l1.length w3 HO3_0.out.rn HO3_1.out.ri).mono ?_
      rintro e w4 ⟨A1, k1, D1, d1, rfl, hoT, hoC, hap, hb4⟩
      have HF4 := Lib.hid (HF3.out.push (hb4.alloc hb4.size (.cells #[(.slice A1 T.length k1), (.slice D1 L.length d1), .int .i64 C] 48)) (itS w3.heap.size (w4.alloc (.cells #[(.slice A1 T.length k1), (.slice D1 L.length d1), .int .i64 C] 48)).heap.size w4.heap.size C (.slice A1 T.length k1) (.slice D1 L.length d1) T L) (Nat.le_refl _) (Nat.le_refl _) (SA.new hoT hoC hap (Nat.le_refl _) hb4.size))
      clear hb4 hoT hoC hap HF3 HO3_0 HO3_1
      obtain ⟨p0, _⟩ := HF4.out.get 1 rfl
      go_wp2_with fail
      refine (toPool_any a0 c0 l0 _ (HR0.out.below' HF4.out.bel) (by omega)).mono ?_
      rintro e w5 ⟨g5, rfl, ho5, hb5⟩
      have HF5 := Lib.hid (HF4.out.push hb5 (rwN (w4.alloc (.cells #[(.slice A1 T.length k1), (.slice D1 L.length d1), .int .i64 C] 48)).heap.size w5.heap.size (.slice (some ⟨g5, 0, none⟩) l0.length l0.length) l0) (Nat.le_refl _) (Nat.le_refl _) ⟨ho5, ho5.lies⟩)
      have HG5 := Lib.hid (HF5.out.push ((Below.refl _ w5).alloc (Nat.le_refl _) (.cells #[(.slice (some ⟨g5, 0, none⟩) l0.length l0.length)] 29)) (bxP w5.heap.size (.slice (some ⟨g5, 0, none⟩) l0.length l0.length)) (Nat.le_refl _) (by simp [bxP]) (PB1.made w5 (.slice (some ⟨g5, 0, none⟩) l0.length l0.length) 29))
      clear HF5
      clear hb5 ho5 HF4 p0
      go_wp2_with fail
      refine (toI_b a1 c1 l1 _ (HR1.out.below' HG5.out.bel) (by omega)).mono ?_
      rintro e w6 ⟨g6, rfl, ho6, hb6⟩
      have HF6 := Lib.hid (HG5.out.push hb6 (rwI (w5.alloc (.cells #[(.slice (some ⟨g5, 0, none⟩) l0.length l0.length)] 29)).heap.size w6.heap.size (.slice (some ⟨g6, 0, none⟩) l1.length l1.length) l1) (Nat.le_refl _) (Nat.le_refl _) ⟨ho6, ho6.lies⟩)
      clear hb6 ho6 HG5 
      obtain ⟨x00, _⟩ := HF6.out.get 1 rfl
      go_wp2_with fail
      have HQ0 : Hid (OwnN w6 (w4.alloc (.cells #[(.slice A1 T.length k1), (.slice D1 L.length d1), .int .i64 C] 48)).heap.size (.slice (some ⟨g5, 0, none⟩) l0.length l0.length) l0) := (HF6.out.get 2 rfl).1
      have HQ1 : Hid (OwnI 2 .i64 w6 (w5.alloc (.cells #[(.slice (some ⟨g5, 0, none⟩) l0.length l0.length)] 29)).heap.size (.slice (some ⟨g6, 0, none⟩) l1.length l1.length) l1) := (HF6.out.get 0 rfl).1
      refine (hI _ l0.length _ l1.length _ HQ0.out.rn HQ1.out.ri).mono ?_
      rintro e w7 ⟨A2, k2, D2, d2, rfl, hoT, hoC, hap, hb7⟩
      have HF7 := Lib.hid (HF6.out.push (hb7.alloc hb7.size (.cells #[(.slice A2 T.length k2), (.slice D2 L.length d2), .int .i64 C] 48)) (itS w6.heap.size (w7.alloc (.cells #[(.slice A2 T.length k2), (.slice D2 L.length d2), .int .i64 C] 48)).heap.size w7.heap.size C (.slice A2 T.length k2) (.slice D2 L.length d2) T L) (Nat.le_refl _) (Nat.le_refl _) (SA.new hoT hoC hap (Nat.le_refl _) hb7.size))
      clear hb7 hoT hoC hap HF6 HQ0 HQ1 x00
      have HMm : Hid (SA (w7.alloc (.cells #[(.slice A2 T.length k2), (.slice D2 L.length d2), .int .i64 C] 48)) w3.heap.size (w4.alloc (.cells #[(.slice A1 T.length k1), (.slice D1 L.length d1), .int .i64 C] 48)).heap.size w4.heap.size C (.slice A1 T.length k1) (.slice D1 L.length d1) T L) := HF7.out.get 4 rfl
      have HMg : Hid (SA (w7.alloc (.cells #[(.slice A2 T.length k2), (.slice D2 L.length d2), .int .i64 C] 48)) w6.heap.size (w7.alloc (.cells #[(.slice A2 T.length k2), (.slice D2 L.length d2), .int .i64 C] 48)).heap.size w7.heap.size C (.slice A2 T.length k2) (.slice D2 L.length d2) T L) := HF7.out.get 0 rfl
      obtain ⟨q0, q1, q2, _, _, _⟩ := HMm.out.m
      obtain ⟨r0, r1, r2, _, _, _⟩ := HMg.out.m
      go_wp2_with fail
      refine (eqSweepOut_any C A2 A1 k2 k1 D2 D1 d2 d1 T L _ HMg.out.oT.rn HMm.out.oT.rn HMg.out.oC.ri HMm.out.oC.ri (by omega) (by omega)).mono ?_
      rintro e w8 ⟨rfl, hb8⟩
      have HF8 := Lib.hid (HF7.out.below hb8)
      clear hb8 HF7 HMm HMg q0 q1 q2 r0 r1 r2
      obtain ⟨x0, _⟩ := HF8.out.get 2 rfl
      obtain ⟨p0, _⟩ := HF8.out.get 5 rfl
      go_wp2_with fail
      have HFd := Lib.hid HF8.out.drew
      have HT9 := Lib.hid (toPool_any a0 c0 l0 w8.drew (HR0.out.below' HFd.out.bel) (by omega))
      go_region_held3 (fun w' => w'.cell? ⟨w5.heap.size, 0, none⟩ = some ((.slice (some ⟨g5, 0, none⟩) l0.length l0.length)) ∧ w'.cell? ⟨(w.heap.size), 0, none⟩ = some (.slice a0 l0.length c0))
        (first
          | go_keep
          | exact hk10
          | exact hk9)
        (first
          | (go_at_call 10; refine (eqPool_any _ _ l0.length l0.length l0 w9 HQ0.out.rn ho9.rn (by omega)).mono ?_; rintro e w10 ⟨rfl, hb10⟩; have HF10 := Lib.hid (HF9.out.below hb10); have hk10 := And.intro (HF10.out.get 2 rfl : (PB1 w10 w5.heap.size (.slice (some ⟨g5, 0, none⟩) l0.length l0.length))).c0 ((HF10.out.get 5 rfl : (PB1 w10 (w.heap.size) (.slice a0 l0.length c0))).c0))
          | (go_at_call 8; refine HT9.out.mono ?_; rintro e w9 ⟨g9, rfl, ho9, hb9⟩; have HF9 := Lib.hid (HFd.out.below hb9); have HQ0 : Hid (OwnN w9 (w4.alloc (.cells #[(.slice A1 T.length k1), (.slice D1 L.length d1), .int .i64 C] 48)).heap.size (.slice (some ⟨g5, 0, none⟩) l0.length l0.length) l0) := (HF9.out.get 3 rfl).1; have hk9 := And.intro (HF9.out.get 2 rfl : (PB1 w9 w5.heap.size (.slice (some ⟨g5, 0, none⟩) l0.length l0.length))).c0 ((HF9.out.get 5 rfl : (PB1 w9 (w.heap.size) (.slice a0 l0.length c0))).c0)))
      rename_i hheld
      clear hheld hk9 hk10 ho9 hb9 hb10 HT9 HF9 HFd HQ0 HF8 x0 p0
      go_wp2_with fail
      refine (toI_b a1 c1 l1 _ (HR1.out.below' HF10.out.bel) (by omega)).mono ?_
      rintro e w11 ⟨g11, rfl, ho11, hb11⟩
      have HF11 := Lib.hid (HF10.out.below hb11)
      clear hb11 HF10
      go_wp2_with fail
      have HQ1 : Hid (OwnI 2 .i64 w11 (w5.alloc (.cells #[(.slice (some ⟨g5, 0, none⟩) l0.length l0.length)] 29)).heap.size (.slice (some ⟨g6, 0, none⟩) l1.length l1.length) l1) := (HF11.out.get 1 rfl).1
      refine (eqI_b _ _ l1.length l1.length l1 _ HQ1.out.ri ho11.ri (by omega)).mono ?_
      rintro e w12 ⟨rfl, hb12⟩
      have HF12 := Lib.hid (HF11.out.below hb12)
      clear hb12 ho11 HF11 HQ1
      obtain ⟨x0, _⟩ := HF12.out.get 2 rfl
      go_wp2_with fail
      have HQ0 : Hid (OwnN w12 (w4.alloc (.cells #[(.slice A1 T.length k1), (.slice D1 L.length d1), .int .i64 C] 48)).heap.size (.slice (some ⟨g5, 0, none⟩) l0.length l0.length) l0) := (HF12.out.get 3 rfl).1
      have HL0 : Hid (Lies (.slice (some ⟨g5, 0, none⟩) l0.length l0.length) (w4.alloc (.cells #[(.slice A1 T.length k1), (.slice D1 L.length d1), .int .i64 C] 48)).heap.size w5.heap.size) := (HF12.out.get 3 rfl).2
      refine (markPool_any _ l0.length (w4.alloc (.cells #[(.slice A1 T.length k1), (.slice D1 L.length d1), .int .i64 C] 48)).heap.size (1) l0 _ HQ0.out (by omega) (by omega)).mono ?_
      rintro e w13 ⟨rfl, ho, hg⟩
      have HF13 : Hid (St w [(itS w6.heap.size (w7.alloc (.cells #[(.slice A2 T.length k2), (.slice D2 L.length d2), .int .i64 C] 48)).heap.size w7.heap.size C (.slice A2 T.length k2) (.slice D2 L.length d2) T L), (rwI (w5.alloc (.cells #[(.slice (some ⟨g5, 0, none⟩) l0.length l0.length)] 29)).heap.size w6.heap.size (.slice (some ⟨g6, 0, none⟩) l1.length l1.length) l1), (bxP w5.heap.size (.slice (some ⟨g5, 0, none⟩) l0.length l0.length)), (rwN (w4.alloc (.cells #[(.slice A1 T.length k1), (.slice D1 L.length d1), .int .i64 C] 48)).heap.size w5.heap.size (.slice (some ⟨g5, 0, none⟩) l0.length l0.length) (marksN (1) l0.length)), (itS w3.heap.size (w4.alloc (.cells #[(.slice A1 T.length k1), (.slice D1 L.length d1), .int .i64 C] 48)).heap.size w4.heap.size C (.slice A1 T.length k1) (.slice D1 L.length d1) T L), (bxP (w.heap.size) (.slice a0 l0.length c0))] w13) := HF12.out.turn 3 (rwN (w4.alloc (.cells #[(.slice A1 T.length k1), (.slice D1 L.length d1), .int .i64 C] 48)).heap.size w5.heap.size (.slice (some ⟨g5, 0, none⟩) l0.length l0.length) (marksN (1) l0.length)) rfl rfl rfl (Only.grown hg HL0.out) ⟨ho, HL0.out⟩
      clear ho hg HQ0 HL0 HF12 x0
      go_wp2_with fail
      have HQ1 : Hid (OwnI 2 .i64 w13 (w5.alloc (.cells #[(.slice (some ⟨g5, 0, none⟩) l0.length l0.length)] 29)).heap.size (.slice (some ⟨g6, 0, none⟩) l1.length l1.length) l1) := (HF13.out.get 1 rfl).1
      have HL1 : Hid (Lies (.slice (some ⟨g6, 0, none⟩) l1.length l1.length) (w5.alloc (.cells #[(.slice (some ⟨g5, 0, none⟩) l0.length l0.length)] 29)).heap.size w6.heap.size) := (HF13.out.get 1 rfl).2
      refine (markInts _ l1.length (w5.alloc (.cells #[(.slice (some ⟨g5, 0, none⟩) l0.length l0.length)] 29)).heap.size (1 + 5 * l0.length) l1 _ HQ1.out (by omega) (by omega)).mono ?_
      rintro e w14 ⟨rfl, ho, hg, _⟩
      have HF14 : Hid (St w [(itS w6.heap.size (w7.alloc (.cells #[(.slice A2 T.length k2), (.slice D2 L.length d2), .int .i64 C] 48)).heap.size w7.heap.size C (.slice A2 T.length k2) (.slice D2 L.length d2) T L), (rwI (w5.alloc (.cells #[(.slice (some ⟨g5, 0, none⟩) l0.length l0.length)] 29)).heap.size w6.heap.size (.slice (some ⟨g6, 0, none⟩) l1.length l1.length) (marks (1 + 5 * l0.length) l1.length)), (bxP w5.heap.size (.slice (some ⟨g5, 0, none⟩) l0.length l0.length)), (rwN (w4.alloc (.cells #[(.slice A1 T.length k1), (.slice D1 L.length d1), .int .i64 C] 48)).heap.size w5.heap.size (.slice (some ⟨g5, 0, none⟩) l0.length l0.length) (marksN (1) l0.length)), (itS w3.heap.size (w4.alloc (.cells #[(.slice A1 T.length k1), (.slice D1 L.length d1), .int .i64 C] 48)).heap.size w4.heap.size C (.slice A1 T.length k1) (.slice D1 L.length d1) T L), (bxP (w.heap.size) (.slice a0 l0.length c0))] w14) := HF13.out.turn 1 (rwI (w5.alloc (.cells #[(.slice (some ⟨g5, 0, none⟩) l0.length l0.length)] 29)).heap.size w6.heap.size (.slice (some ⟨g6, 0, none⟩) l1.length l1.length) (marks (1 + 5 * l0.length) l1.length)) rfl rfl rfl (Only.grown hg HL1.out) ⟨ho, HL1.out⟩
      clear ho hg HQ1 HL1 HF13 
      have HMm : Hid (SA w14 w3.heap.size (w4.alloc (.cells #[(.slice A1 T.length k1), (.slice D1 L.length d1), .int .i64 C] 48)).heap.size w4.heap.size C (.slice A1 T.length k1) (.slice D1 L.length d1) T L) := HF14.out.get 4 rfl
      have HMg : Hid (SA w14 w6.heap.size (w7.alloc (.cells #[(.slice A2 T.length k2), (.slice D2 L.length d2), .int .i64 C] 48)).heap.size w7.heap.size C (.slice A2 T.length k2) (.slice D2 L.length d2) T L) := HF14.out.get 0 rfl
      obtain ⟨q0, q1, q2, _, _, _⟩ := HMm.out.m
      obtain ⟨r0, r1, r2, _, _, _⟩ := HMg.out.m
      go_wp2_with fail
      refine (eqSweepOut_any C A2 A1 k2 k1 D2 D1 d2 d1 T L _ HMg.out.oT.rn HMm.out.oT.rn HMg.out.oC.ri HMm.out.oC.ri (by omega) (by omega)).mono ?_
      rintro e w15 ⟨rfl, hb15⟩
      have HF15 := Lib.hid (HF14.out.below hb15)
      clear hb15 HF14 HMm HMg q0 q1 q2 r0 r1 r2
      have HMg : Hid (SA w15 w6.heap.size (w7.alloc (.cells #[(.slice A2 T.length k2), (.slice D2 L.length d2), .int .i64 C] 48)).heap.size w7.heap.size C (.slice A2 T.length k2) (.slice D2 L.length d2) T L) := HF15.out.get 0 rfl
      obtain ⟨r0, r1, r2, _, _, _⟩ := HMg.out.m
      have hszg : (w7.alloc (.cells #[(.slice A2 T.length k2), (.slice D2 L.length d2), .int .i64 C] 48)).heap.size ≤ w15.heap.size := HF15.out.szi 0 rfl
      go_wp2_with fail
      refine (markSweepOut_any C A2 k2 D2 d2 w6.heap.size w6.heap.size (w7.alloc (.cells #[(.slice A2 T.length k2), (.slice D2 L.length d2), .int .i64 C] 48)).heap.size 1 T L _ HMg.out.oT HMg.out.oC HMg.out.ap HMg.out.lT HMg.out.lC hszg (by omega) (by omega) (by omega)).mono ?_
      rintro e w16 ⟨rfl, hoT, hoC, honly, hkeep⟩
      have HF16 : Hid (St w [(itS w6.heap.size (w7.alloc (.cells #[(.slice A2 T.length k2), (.slice D2 L.length d2), .int .i64 C] 48)).heap.size w7.heap.size C (.slice A2 T.length k2) (.slice D2 L.length d2) (marksN 1 T.length) (marks (1 + 5 * T.length) L.length)), (rwI (w5.alloc (.cells #[(.slice (some ⟨g5, 0, none⟩) l0.length l0.length)] 29)).heap.size w6.heap.size (.slice (some ⟨g6, 0, none⟩) l1.length l1.length) (marks (1 + 5 * l0.length) l1.length)), (bxP w5.heap.size (.slice (some ⟨g5, 0, none⟩) l0.length l0.length)), (rwN (w4.alloc (.cells #[(.slice A1 T.length k1), (.slice D1 L.length d1), .int .i64 C] 48)).heap.size w5.heap.size (.slice (some ⟨g5, 0, none⟩) l0.length l0.length) (marksN (1) l0.length)), (itS w3.heap.size (w4.alloc (.cells #[(.slice A1 T.length k1), (.slice D1 L.length d1), .int .i64 C] 48)).heap.size w4.heap.size C (.slice A1 T.length k1) (.slice D1 L.length d1) T L), (bxP (w.heap.size) (.slice a0 l0.length c0))] w16) := HF15.out.turn 0 (itS w6.heap.size (w7.alloc (.cells #[(.slice A2 T.length k2), (.slice D2 L.length d2), .int .i64 C] 48)).heap.size w7.heap.size C (.slice A2 T.length k2) (.slice D2 L.length d2) (marksN 1 T.length) (marks (1 + 5 * T.length) L.length)) rfl rfl rfl honly (HMg.out.marked (hkeep _ (Nat.lt_of_lt_of_le HMg.out.hq.2 hszg) HMg.out.aT HMg.out.aC) hoT hoC)
      clear hoT hoC honly hkeep hszg HMg HF15 r0 r1 r2
      have HMg : Hid (SA w16 w6.heap.size (w7.alloc (.cells #[(.slice A2 T.length k2), (.slice D2 L.length d2), .int .i64 C] 48)).heap.size w7.heap.size C (.slice A2 T.length k2) (.slice D2 L.length d2) (marksN 1 T.length) (marks (1 + 5 * T.length) L.length)) := HF16.out.get 0 rfl
      obtain ⟨r0, r1, r2, _, _, _⟩ := HMg.out.m
      go_wp2_with fail
      refine (heldSweepOut_any C A2 k2 D2 d2 1 T.length L.length _ HMg.out.oT.rn HMg.out.oC.ri (by omega) (by omega) (by omega)).mono ?_
      rintro e w17 ⟨rfl, hb17⟩
      have HF17 := Lib.hid (HF16.out.below hb17)
      clear hb17 HF16 HMg r0 r1 r2
      obtain ⟨p0, _⟩ := HF17.out.get 5 rfl
      go_wp2_with fail
      refine (toPool_any a0 c0 l0 _ (HR0.out.below' HF17.out.bel) (by omega)).mono ?_
      rintro e w18 ⟨g18, rfl, ho18, hb18⟩
      have HF18 := Lib.hid (HF17.out.below hb18)
      have HO18_0 := Lib.hid ho18
      clear hb18 ho18 HF17 p0
      go_wp2_with fail
      refine (toI_b a1 c1 l1 _ (HR1.out.below' HF18.out.bel) (by omega)).mono ?_
      rintro e w19 ⟨g19, rfl, ho19, hb19⟩
      have HF19 := Lib.hid (HF18.out.below hb19)
      have HO19_0 := Lib.hid (HO18_0.out.keep hb19)
      clear HO18_0
      have HO19_1 := Lib.hid ho19
      clear hb19 ho19 HF18 
      go_wp2_with fail
      refine (hI _ l0.length _ l1.length w19 HO19_0.out.rn HO19_1.out.ri).mono ?_
      rintro e w20 ⟨A3, k3, D3, d3, rfl, hoT, hoC, hap, hb20⟩
      have HF20 := Lib.hid (HF19.out.push (hb20.alloc hb20.size (.cells #[(.slice A3 T.length k3), (.slice D3 L.length d3), .int .i64 C] 48)) (itS w19.heap.size (w20.alloc (.cells #[(.slice A3 T.length k3), (.slice D3 L.length d3), .int .i64 C] 48)).heap.size w20.heap.size C (.slice A3 T.length k3) (.slice D3 L.length d3) T L) (Nat.le_refl _) (Nat.le_refl _) (SA.new hoT hoC hap (Nat.le_refl _) hb20.size))
      clear hb20 hoT hoC hap HF19 HO19_0 HO19_1
      have HMm : Hid (SA (w20.alloc (.cells #[(.slice A3 T.length k3), (.slice D3 L.length d3), .int .i64 C] 48)) w3.heap.size (w4.alloc (.cells #[(.slice A1 T.length k1), (.slice D1 L.length d1), .int .i64 C] 48)).heap.size w4.heap.size C (.slice A1 T.length k1) (.slice D1 L.length d1) T L) := HF20.out.get 5 rfl
      have HMg : Hid (SA (w20.alloc (.cells #[(.slice A3 T.length k3), (.slice D3 L.length d3), .int .i64 C] 48)) w19.heap.size (w20.alloc (.cells #[(.slice A3 T.length k3), (.slice D3 L.length d3), .int .i64 C] 48)).heap.size w20.heap.size C (.slice A3 T.length k3) (.slice D3 L.length d3) T L) := HF20.out.get 0 rfl
      obtain ⟨q0, q1, q2, _, _, _⟩ := HMm.out.m
      obtain ⟨r0, r1, r2, _, _, _⟩ := HMg.out.m
      go_wp2_with fail
      refine (eqSweepOut_any C A3 A1 k3 k1 D3 D1 d3 d1 T L _ HMg.out.oT.rn HMm.out.oT.rn HMg.out.oC.ri HMm.out.oC.ri (by omega) (by omega)).mono ?_
      rintro e w21 ⟨rfl, hb21⟩
      have HF21 := Lib.hid (HF20.out.below hb21)
      clear hb21 HF20 HMm HMg q0 q1 q2 r0 r1 r2
      have HMg : Hid (SA w21 w6.heap.size (w7.alloc (.cells #[(.slice A2 T.length k2), (.slice D2 L.length d2), .int .i64 C] 48)).heap.size w7.heap.size C (.slice A2 T.length k2) (.slice D2 L.length d2) (marksN 1 T.length) (marks (1 + 5 * T.length) L.length)) := HF21.out.get 1 rfl
      obtain ⟨r0, r1, r2, _, _, _⟩ := HMg.out.m
      go_wp2_with fail
      refine (heldSweepOut_any C A2 k2 D2 d2 1 T.length L.length _ HMg.out.oT.rn HMg.out.oC.ri (by omega) (by omega) (by omega)).mono ?_
      rintro e w22 ⟨rfl, hb22⟩
      have HF22 := Lib.hid (HF21.out.below hb22)
      clear hb22 HF21 HMg r0 r1 r2
      go_wp2
      go_ret
      exact ⟨rfl, HF22.out.bel⟩
    · rw [if_neg hl0] at hsz0
      go_enter Try.func5, Try.ntmps5
      go_wp2_with fail
      refine (hsz0 _).mono ?_
      rintro e w1 ⟨rfl, hb1⟩
      have HF1 := Lib.hid (HF0.out.below hb1)
      clear hb1 HF0 
      go_wp2
      go_ret
      exact ⟨rfl, HF1.out.bel⟩
  · have hd1 : decide ((1048576 : Int) < (l1.length : Int)) = true := decide_eq_true (by omega)
    go_enter Try.func5, Try.ntmps5
    go_wp2
    go_ret
    exact ⟨rfl, HF0.out.bel⟩

set_option maxRecDepth 100000 in
theorem lifted (os : Os) (started : os.Started) (H : Type) (enc : TypeId × Value → H) :
    ReturnsInHanded {} Try.checked os 5 .any (Rows.fnExactSweepSpec.pre6 enc Try.prog Try.f5 Rows.fnExactSweepRow.domain false) (Rows.fnExactSweepSpec.post enc Try.prog Try.f5 false true false false) := by
  refine returnsInHanded_of_change (C := Try.checked) own started (by kernel_rfl) Try.func5
    (ChangeSpec.witness6 (enc := enc) (C := Try.checked) false ⟨#[], #[.agg #[.slice none 0 0], .slice none 0 0], []⟩ 8 (by kernel_rfl) (by kernel_rfl) (by kernel_rfl) (by kernel_rfl)) ?_
  intro W base args ds gs before hval0 hW hcnd _
  have hval : ∀ (j : Nat) t v, Try.f5.params[j]? = some t → args[j]? = some v → Value.okWide Try.prog W .any base t v := hval0
  have hW' := hW
  obtain ⟨p, q, hA0, hV, rfl, hfz, hnd⟩ := hW
  have hA : DataW.TrodAll enc Try.prog W 0 (fun _ => true) true Try.f5.params.toList args.toList ds p := hA0
  rw [Try.params5] at hA hval
  obtain ⟨v0, vs0, d0, ds0, p0, q0, hargs, rfl, rfl, h0, r0⟩ := trodAll_cons hA
  obtain ⟨v1, vs1, d1, ds1, p1, q1, rfl, rfl, rfl, h1, r1⟩ := trodAll_cons r0
  obtain ⟨rfl, rfl, rfl⟩ := trodAll_nil r1
  obtain rfl : args = #[v0, v1] := by cases args; simp_all
  obtain ⟨rfl, rfl⟩ := trodVars_none hV
  have k0 := h0
  have lt0 : ∀ x ∈ p0, x.block < W.heap.size := by obtain ⟨m, hm⟩ := k0; exact DataW.trod_lt m _ _ _ hm
  obtain ⟨a0, cap0, z0, rfl, w0⟩ := open_pool (hval 0 24 v0 rfl rfl) h0
  have k1 := h1
  have lt1 : ∀ x ∈ p1, x.block < W.heap.size := by obtain ⟨m, hm⟩ := k1; exact DataW.trod_lt m _ _ _ hm
  obtain ⟨a1, cap1, z1, rfl, w1⟩ := openI64s (hval 1 33 v1 rfl rfl) h1
  clear hA0 hval0
  refine (walk a0 cap0 z0 a1 cap1 z1 W w0 w1).mono fun e W' ⟨he, bel⟩ => ?_
  subst he
  exact ⟨_, rfl, _, _, _, [], _, [], hW', trodAll_mk1 (shut_bool Try.underlying4 _), (trodAll_cons_mk (Below.trod laidOut (by kernel_rfl) (of_decide_eq_true (by kernel_rfl)) k0 bel lt0) (trodAll_cons_mk (Below.trod laidOut (by kernel_rfl) (of_decide_eq_true (by kernel_rfl)) k1 bel lt1) trodAll_mk0)), rfl, bel.frame _, fun h => by cases h⟩

theorem over : Rows.fnExactSweepRow.holds Try.pinned (OpenSpec.ofChange Rows.fnExactSweepSpec) :=
  OpenClaim.holds_of_wide 5 Try.f5 rfl rfl rfl rfl rfl rfl rfl ⟨rfl, rfl, rfl, rfl, rfl⟩ rfl rfl rfl rfl rfl (by kernel_rfl) Try.func5 (by kernel_rfl)
    (of_decide_eq_true (by kernel_rfl)) (by unfold Func.isWrapper; first | (rw [if_pos (by decide +kernel)]; kernel_rfl) | (rw [if_neg (by decide +kernel)]; exact ⟨rfl, rfl⟩))
    (fun os started H enc _ => lifted os started H enc)

end Go.Proofs.Ytoobkajilbmdhaa.fnExactSweep
namespace Go.Proofs.Ytoobkajilbmdhaa
/-- The statement. -/
theorem fnExactSweep_holds : Rows.FnExactSweepSaid := fnExactSweep.over
end Go.Proofs.Ytoobkajilbmdhaa
