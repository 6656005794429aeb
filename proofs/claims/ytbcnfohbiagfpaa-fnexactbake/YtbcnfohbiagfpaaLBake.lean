/- FnExactBake: for every input the law returns true, and its arguments read as before. No condition beyond the row's own. -/
import Derived.Test.YtbcnfohbiagfpaaRows
import Derived.WalkKit
import Derived.ProofKit
import Derived.OpenShut
import Derived.ShutString
import Derived.ChangeOld
import Derived.Below
import Derived.WalkSpells
import Derived.WalkLawsBesides
import Derived.Lib.Hide
import Derived.Test.YtbcnfohbiagfpaaWyBp
import Derived.Test.YtbcnfohbiagfpaaItPl
namespace Go.Proofs.Ytbcnfohbiagfpaa.fnExactBake
open Go.ChangeShapes Go.WideShapes Go.ChangeAt Go.RowKit
open Go.ChangeMaps (open_string shut_string)
set_option linter.unusedVariables false

theorem own : ownKnob Try.prog.godebug = none := by kernel_rfl
theorem laidOut : laidOutB Try.prog = true := by kernel_rfl

set_option maxRecDepth 100000 in
set_option maxHeartbeats 4000000 in
theorem walk (s0 : Int) (a0 : Option Addr) (c0 : Nat) (l0 : List Int) (a1 : Option Addr) (c1 : Nat) (l1 : List Pl) (w : World) (h0 : InGrid w s0 a0 l0) (h1 : (RPl w w.heap.size a1 l1 ∧ l1.length ≤ maxLen ∧ ∀ n ∈ l1, n.Fits)) :
    Calls Try.prog 9 #[.agg #[.int .i64 s0, .slice a0 l0.length c0], .slice a1 l1.length c1] w fun e w' => e = .returned (.bool true) ∧ Below w.heap.size w w' := by
  have HR0 := Lib.hid h0.2.1
  have hlm0 := h0.2.2.1
  have HS0 := Lib.hid h0.nums
  have HR1 := Lib.hid h1.1
  have hlm1 := h1.2.1
  have HS1 := Lib.hid h1.2.2
  unfold maxLen at hlm0 hlm1
  clear h0 h1
  have HF0 : Hid (St w [(bxG (w.heap.size) s0 (.slice a0 l0.length c0))] (w.alloc (.cells #[.int .i64 s0, .slice a0 l0.length c0] 53))) := by
    have := ((St.start w).push ((Below.refl _ w).alloc (Nat.le_refl _) (.cells #[.int .i64 s0, .slice a0 l0.length c0] 53)) (bxG w.heap.size s0 (.slice a0 l0.length c0)) (Nat.le_refl _) (by simp [bxG]) (GB.made w s0 (.slice a0 l0.length c0) 53))
    exact this
  have hsz0 := fun w => szGrid_any s0 (1048576) a0 l0.length c0 w (by omega) (by decide) (by decide)
  by_cases hl0 : (l0.length : Int) ≤ 1048576
  · rw [if_pos hl0] at hsz0
    have hleft1 : (0 : Int) ≤ 1048576 - l0.length := by omega
    have hsz1 := fun w => szPls_b a1 l1.length c1 (1048576 - l0.length) w (by omega) hleft1 (by omega)
    by_cases hl1 : (l1.length : Int) ≤ 1048576 - l0.length
    · rw [if_pos hl1] at hsz1
      have hleft2 : (0 : Int) ≤ 1048576 - l0.length - l1.length := by omega
      obtain ⟨D, hD⟩ := isb_any s0 l0 l1
      have hM := fun A0 c0' g c1' w h0 h1 => mBake_any s0 A0 c0' l0 g 0 c1' l1 D w h0 h1 (by omega) (by omega) hD
      have hI := fun A0 c0' g c1' w h0 h1 => pBake_any s0 A0 c0' l0 g 0 c1' l1 D w h0 h1 (by omega) (by omega) (fun i hi => ⟨bounds_i64 (HS1.out _ (List.getElem_mem hi)).1, bounds_i64 (HS1.out _ (List.getElem_mem hi)).2⟩) hD
      have hlen := bakeM_len s0 l0 l1
      generalize bakeM s0 l0 l1 = T at *
      have hlen2 := bakeD_len hD
      unfold TOut at hM hI
      generalize bakeD s0 l0 l1 D = L at *
      clear hD
      go_enter Try.func9, Try.ntmps9
      go_wp2_with fail
      refine (hsz0 _).mono ?_
      rintro e w1 ⟨rfl, hb1⟩
      have HF1 := Lib.hid (HF0.out.below hb1)
      clear hb1 HF0 
      go_wp2_with fail
      refine (hsz1 _).mono ?_
      rintro e w2 ⟨rfl, hb2⟩
      have HF2 := Lib.hid (HF1.out.below hb2)
      clear hb2 HF1 
      clear hsz0 hsz1
      obtain ⟨p0, p1, _, _⟩ := HF2.out.get 0 rfl
      go_wp2_with fail
      refine (toGrid_any s0 a0 c0 l0 _ (HR0.out.below' HF2.out.bel) (by omega)).mono ?_
      rintro e w3 ⟨g3, rfl, ho3, hb3⟩
      have HF3 := Lib.hid (HF2.out.below hb3)
      have HO3_0 := Lib.hid ho3
      clear hb3 ho3 HF2 p0 p1
      go_wp2_with fail
      refine (toPls_b a1 c1 l1 _ (HR1.out.below' HF3.out.bel) (by omega)).mono ?_
      rintro e w4 ⟨g4, rfl, ho4, hb4⟩
      have HF4 := Lib.hid (HF3.out.below hb4)
      have HO4_0 := Lib.hid (HO3_0.out.keep hb4)
      clear HO3_0
      have HO4_1 := Lib.hid ho4
      clear hb4 ho4 HF3 
      go_wp2_with fail
      refine (hM _ l0.length _ l1.length w4 HO4_0.out.ri HO4_1.out.r).mono ?_
      rintro e w5 ⟨A1, k1, D1, d1, rfl, hoT, hoC, hap, hb5⟩
      have HF5 := Lib.hid (HF4.out.push (hb5.alloc hb5.size (.cells #[(.slice A1 T.length k1), (.slice D1 L.length d1)] 45)) (itT w4.heap.size (w5.alloc (.cells #[(.slice A1 T.length k1), (.slice D1 L.length d1)] 45)).heap.size w5.heap.size (.slice A1 T.length k1) (.slice D1 L.length d1) T L) (Nat.le_refl _) (Nat.le_refl _) (TA.new hoT hoC hap (Nat.le_refl _) hb5.size))
      clear hb5 hoT hoC hap HF4 HO4_0 HO4_1
      obtain ⟨p0, p1, _, _⟩ := HF5.out.get 1 rfl
      go_wp2_with fail
      refine (toGrid_any s0 a0 c0 l0 _ (HR0.out.below' HF5.out.bel) (by omega)).mono ?_
      rintro e w6 ⟨g6, rfl, ho6, hb6⟩
      have HF6 := Lib.hid (HF5.out.push hb6 (rwI (w5.alloc (.cells #[(.slice A1 T.length k1), (.slice D1 L.length d1)] 45)).heap.size w6.heap.size (.slice (some ⟨g6, 0, none⟩) l0.length l0.length) l0) (Nat.le_refl _) (Nat.le_refl _) ⟨ho6, ho6.lies⟩)
      have HG6 := Lib.hid (HF6.out.push ((Below.refl _ w6).alloc (Nat.le_refl _) (.cells #[.int .i64 s0, (.slice (some ⟨g6, 0, none⟩) l0.length l0.length)] 25)) (bxG w6.heap.size s0 (.slice (some ⟨g6, 0, none⟩) l0.length l0.length)) (Nat.le_refl _) (by simp [bxG]) (GB.made w6 s0 (.slice (some ⟨g6, 0, none⟩) l0.length l0.length) 25))
      clear HF6
      clear hb6 ho6 HF5 p0 p1
      go_wp2_with fail
      refine (toPls_b a1 c1 l1 _ (HR1.out.below' HG6.out.bel) (by omega)).mono ?_
      rintro e w7 ⟨g7, rfl, ho7, hb7⟩
      have HF7 := Lib.hid (HG6.out.push hb7 (rwQ (w6.alloc (.cells #[.int .i64 s0, (.slice (some ⟨g6, 0, none⟩) l0.length l0.length)] 25)).heap.size w7.heap.size (.slice (some ⟨g7, 0, none⟩) l1.length l1.length) l1) (Nat.le_refl _) (Nat.le_refl _) ⟨ho7, ho7.lies⟩)
      clear hb7 ho7 HG6 
      obtain ⟨x00, x01, _, _⟩ := HF7.out.get 1 rfl
      go_wp2_with fail
      have HQ0 : Hid (OwnI 2 .i64 w7 (w5.alloc (.cells #[(.slice A1 T.length k1), (.slice D1 L.length d1)] 45)).heap.size (.slice (some ⟨g6, 0, none⟩) l0.length l0.length) l0) := (HF7.out.get 2 rfl).1
      have HQ1 : Hid (OwnPl w7 (w6.alloc (.cells #[.int .i64 s0, (.slice (some ⟨g6, 0, none⟩) l0.length l0.length)] 25)).heap.size (.slice (some ⟨g7, 0, none⟩) l1.length l1.length) l1) := (HF7.out.get 0 rfl).1
      refine (hI _ l0.length _ l1.length _ HQ0.out.ri HQ1.out.r).mono ?_
      rintro e w8 ⟨A2, k2, D2, d2, rfl, hoT, hoC, hap, hb8⟩
      have HF8 := Lib.hid (HF7.out.push (hb8.alloc hb8.size (.cells #[(.slice A2 T.length k2), (.slice D2 L.length d2)] 45)) (itT w7.heap.size (w8.alloc (.cells #[(.slice A2 T.length k2), (.slice D2 L.length d2)] 45)).heap.size w8.heap.size (.slice A2 T.length k2) (.slice D2 L.length d2) T L) (Nat.le_refl _) (Nat.le_refl _) (TA.new hoT hoC hap (Nat.le_refl _) hb8.size))
      clear hb8 hoT hoC hap HF7 HQ0 HQ1 x00 x01
      have HMm : Hid (TA (w8.alloc (.cells #[(.slice A2 T.length k2), (.slice D2 L.length d2)] 45)) w4.heap.size (w5.alloc (.cells #[(.slice A1 T.length k1), (.slice D1 L.length d1)] 45)).heap.size w5.heap.size (.slice A1 T.length k1) (.slice D1 L.length d1) T L) := HF8.out.get 4 rfl
      have HMg : Hid (TA (w8.alloc (.cells #[(.slice A2 T.length k2), (.slice D2 L.length d2)] 45)) w7.heap.size (w8.alloc (.cells #[(.slice A2 T.length k2), (.slice D2 L.length d2)] 45)).heap.size w8.heap.size (.slice A2 T.length k2) (.slice D2 L.length d2) T L) := HF8.out.get 0 rfl
      obtain ⟨q0, q1, _, _⟩ := HMm.out.m
      obtain ⟨r0, r1, _, _⟩ := HMg.out.m
      go_wp2_with fail
      refine (eqTables_any A2 A1 k2 k1 D2 D1 d2 d1 T L _ HMg.out.oT.r HMm.out.oT.r HMg.out.oC.ri HMm.out.oC.ri (by omega) (by omega)).mono ?_
      rintro e w9 ⟨rfl, hb9⟩
      have HF9 := Lib.hid (HF8.out.below hb9)
      clear hb9 HF8 HMm HMg q0 q1 r0 r1
      obtain ⟨x0, x1, _, _⟩ := HF9.out.get 2 rfl
      obtain ⟨p0, p1, _, _⟩ := HF9.out.get 5 rfl
      go_wp2_with fail
      have HFd := Lib.hid HF9.out.drew
      have HT10 := Lib.hid (toGrid_any s0 a0 c0 l0 w9.drew (HR0.out.below' HFd.out.bel) (by omega))
      go_region_held3 (fun w' => w'.cell? ⟨w6.heap.size, 0, none⟩ = some (.int .i64 s0) ∧ w'.cell? ⟨w6.heap.size, 1, none⟩ = some ((.slice (some ⟨g6, 0, none⟩) l0.length l0.length)) ∧ w'.cell? ⟨(w.heap.size), 0, none⟩ = some (.int .i64 s0) ∧ w'.cell? ⟨(w.heap.size), 1, none⟩ = some (.slice a0 l0.length c0))
        (first
          | go_keep
          | exact hk11
          | exact hk10)
        (first
          | (go_at_call 37; refine (eqGrid_any s0 _ _ l0.length l0.length l0 w10 HQ0.out.ri ho10.ri (by omega)).mono ?_; rintro e w11 ⟨rfl, hb11⟩; have HF11 := Lib.hid (HF10.out.below hb11); have hk11 := And.intro (HF11.out.get 2 rfl : (GB w11 w6.heap.size s0 (.slice (some ⟨g6, 0, none⟩) l0.length l0.length))).c0 (And.intro (HF11.out.get 2 rfl : (GB w11 w6.heap.size s0 (.slice (some ⟨g6, 0, none⟩) l0.length l0.length))).c1 (And.intro (HF11.out.get 5 rfl : (GB w11 (w.heap.size) s0 (.slice a0 l0.length c0))).c0 ((HF11.out.get 5 rfl : (GB w11 (w.heap.size) s0 (.slice a0 l0.length c0))).c1))))
          | (go_at_call 33; refine HT10.out.mono ?_; rintro e w10 ⟨g10, rfl, ho10, hb10⟩; have HF10 := Lib.hid (HFd.out.below hb10); have HQ0 : Hid (OwnI 2 .i64 w10 (w5.alloc (.cells #[(.slice A1 T.length k1), (.slice D1 L.length d1)] 45)).heap.size (.slice (some ⟨g6, 0, none⟩) l0.length l0.length) l0) := (HF10.out.get 3 rfl).1; have hk10 := And.intro (HF10.out.get 2 rfl : (GB w10 w6.heap.size s0 (.slice (some ⟨g6, 0, none⟩) l0.length l0.length))).c0 (And.intro (HF10.out.get 2 rfl : (GB w10 w6.heap.size s0 (.slice (some ⟨g6, 0, none⟩) l0.length l0.length))).c1 (And.intro (HF10.out.get 5 rfl : (GB w10 (w.heap.size) s0 (.slice a0 l0.length c0))).c0 ((HF10.out.get 5 rfl : (GB w10 (w.heap.size) s0 (.slice a0 l0.length c0))).c1)))))
      rename_i hheld
      clear hheld hk10 hk11 ho10 hb10 hb11 HT10 HF10 HFd HQ0 HF9 x0 x1 p0 p1
      go_wp2_with fail
      refine (toPls_b a1 c1 l1 _ (HR1.out.below' HF11.out.bel) (by omega)).mono ?_
      rintro e w12 ⟨g12, rfl, ho12, hb12⟩
      have HF12 := Lib.hid (HF11.out.below hb12)
      clear hb12 HF11
      go_wp2_with fail
      have HQ1 : Hid (OwnPl w12 (w6.alloc (.cells #[.int .i64 s0, (.slice (some ⟨g6, 0, none⟩) l0.length l0.length)] 25)).heap.size (.slice (some ⟨g7, 0, none⟩) l1.length l1.length) l1) := (HF12.out.get 1 rfl).1
      refine (eqPls _ _ l1.length l1.length l1 _ HQ1.out.r ho12.r (by omega)).mono ?_
      rintro e w13 ⟨rfl, hb13⟩
      have HF13 := Lib.hid (HF12.out.below hb13)
      clear hb13 ho12 HF12 HQ1
      obtain ⟨x0, x1, _, _⟩ := HF13.out.get 2 rfl
      go_wp2_with fail
      have HQ0 : Hid (OwnI 2 .i64 w13 (w5.alloc (.cells #[(.slice A1 T.length k1), (.slice D1 L.length d1)] 45)).heap.size (.slice (some ⟨g6, 0, none⟩) l0.length l0.length) l0) := (HF13.out.get 3 rfl).1
      have HL0 : Hid (Lies (.slice (some ⟨g6, 0, none⟩) l0.length l0.length) (w5.alloc (.cells #[(.slice A1 T.length k1), (.slice D1 L.length d1)] 45)).heap.size w6.heap.size) := (HF13.out.get 3 rfl).2
      refine (markGrid_any s0 _ l0.length (w5.alloc (.cells #[(.slice A1 T.length k1), (.slice D1 L.length d1)] 45)).heap.size (1) l0 _ HQ0.out (by omega) (by omega)).mono ?_
      rintro e w14 ⟨rfl, ho, hg⟩
      have HF14 : Hid (St w [(itT w7.heap.size (w8.alloc (.cells #[(.slice A2 T.length k2), (.slice D2 L.length d2)] 45)).heap.size w8.heap.size (.slice A2 T.length k2) (.slice D2 L.length d2) T L), (rwQ (w6.alloc (.cells #[.int .i64 s0, (.slice (some ⟨g6, 0, none⟩) l0.length l0.length)] 25)).heap.size w7.heap.size (.slice (some ⟨g7, 0, none⟩) l1.length l1.length) l1), (bxG w6.heap.size s0 (.slice (some ⟨g6, 0, none⟩) l0.length l0.length)), (rwI (w5.alloc (.cells #[(.slice A1 T.length k1), (.slice D1 L.length d1)] 45)).heap.size w6.heap.size (.slice (some ⟨g6, 0, none⟩) l0.length l0.length) (marks (1) l0.length)), (itT w4.heap.size (w5.alloc (.cells #[(.slice A1 T.length k1), (.slice D1 L.length d1)] 45)).heap.size w5.heap.size (.slice A1 T.length k1) (.slice D1 L.length d1) T L), (bxG (w.heap.size) s0 (.slice a0 l0.length c0))] w14) := HF13.out.turn 3 (rwI (w5.alloc (.cells #[(.slice A1 T.length k1), (.slice D1 L.length d1)] 45)).heap.size w6.heap.size (.slice (some ⟨g6, 0, none⟩) l0.length l0.length) (marks (1) l0.length)) rfl rfl rfl (Only.grown hg HL0.out) ⟨ho, HL0.out⟩
      clear ho hg HQ0 HL0 HF13 x0 x1
      go_wp2_with fail
      have HQ1 : Hid (OwnPl w14 (w6.alloc (.cells #[.int .i64 s0, (.slice (some ⟨g6, 0, none⟩) l0.length l0.length)] 25)).heap.size (.slice (some ⟨g7, 0, none⟩) l1.length l1.length) l1) := (HF14.out.get 1 rfl).1
      have HL1 : Hid (Lies (.slice (some ⟨g7, 0, none⟩) l1.length l1.length) (w6.alloc (.cells #[.int .i64 s0, (.slice (some ⟨g6, 0, none⟩) l0.length l0.length)] 25)).heap.size w7.heap.size) := (HF14.out.get 1 rfl).2
      refine (markPls _ l1.length (w6.alloc (.cells #[.int .i64 s0, (.slice (some ⟨g6, 0, none⟩) l0.length l0.length)] 25)).heap.size (1 + l0.length) l1 _ HQ1.out (by omega) (by omega)).mono ?_
      rintro e w15 ⟨rfl, ho, hg, _⟩
      have HF15 : Hid (St w [(itT w7.heap.size (w8.alloc (.cells #[(.slice A2 T.length k2), (.slice D2 L.length d2)] 45)).heap.size w8.heap.size (.slice A2 T.length k2) (.slice D2 L.length d2) T L), (rwQ (w6.alloc (.cells #[.int .i64 s0, (.slice (some ⟨g6, 0, none⟩) l0.length l0.length)] 25)).heap.size w7.heap.size (.slice (some ⟨g7, 0, none⟩) l1.length l1.length) (marksPl (1 + l0.length) l1.length)), (bxG w6.heap.size s0 (.slice (some ⟨g6, 0, none⟩) l0.length l0.length)), (rwI (w5.alloc (.cells #[(.slice A1 T.length k1), (.slice D1 L.length d1)] 45)).heap.size w6.heap.size (.slice (some ⟨g6, 0, none⟩) l0.length l0.length) (marks (1) l0.length)), (itT w4.heap.size (w5.alloc (.cells #[(.slice A1 T.length k1), (.slice D1 L.length d1)] 45)).heap.size w5.heap.size (.slice A1 T.length k1) (.slice D1 L.length d1) T L), (bxG (w.heap.size) s0 (.slice a0 l0.length c0))] w15) := HF14.out.turn 1 (rwQ (w6.alloc (.cells #[.int .i64 s0, (.slice (some ⟨g6, 0, none⟩) l0.length l0.length)] 25)).heap.size w7.heap.size (.slice (some ⟨g7, 0, none⟩) l1.length l1.length) (marksPl (1 + l0.length) l1.length)) rfl rfl rfl (Only.grown hg HL1.out) ⟨ho, HL1.out⟩
      clear ho hg HQ1 HL1 HF14 
      have HMm : Hid (TA w15 w4.heap.size (w5.alloc (.cells #[(.slice A1 T.length k1), (.slice D1 L.length d1)] 45)).heap.size w5.heap.size (.slice A1 T.length k1) (.slice D1 L.length d1) T L) := HF15.out.get 4 rfl
      have HMg : Hid (TA w15 w7.heap.size (w8.alloc (.cells #[(.slice A2 T.length k2), (.slice D2 L.length d2)] 45)).heap.size w8.heap.size (.slice A2 T.length k2) (.slice D2 L.length d2) T L) := HF15.out.get 0 rfl
      obtain ⟨q0, q1, _, _⟩ := HMm.out.m
      obtain ⟨r0, r1, _, _⟩ := HMg.out.m
      go_wp2_with fail
      refine (eqTables_any A2 A1 k2 k1 D2 D1 d2 d1 T L _ HMg.out.oT.r HMm.out.oT.r HMg.out.oC.ri HMm.out.oC.ri (by omega) (by omega)).mono ?_
      rintro e w16 ⟨rfl, hb16⟩
      have HF16 := Lib.hid (HF15.out.below hb16)
      clear hb16 HF15 HMm HMg q0 q1 r0 r1
      have HMg : Hid (TA w16 w7.heap.size (w8.alloc (.cells #[(.slice A2 T.length k2), (.slice D2 L.length d2)] 45)).heap.size w8.heap.size (.slice A2 T.length k2) (.slice D2 L.length d2) T L) := HF16.out.get 0 rfl
      obtain ⟨r0, r1, _, _⟩ := HMg.out.m
      have hszg : (w8.alloc (.cells #[(.slice A2 T.length k2), (.slice D2 L.length d2)] 45)).heap.size ≤ w16.heap.size := HF16.out.szi 0 rfl
      go_wp2_with fail
      refine (markTables_any A2 k2 D2 d2 w7.heap.size w7.heap.size (w8.alloc (.cells #[(.slice A2 T.length k2), (.slice D2 L.length d2)] 45)).heap.size 1 T L _ HMg.out.oT HMg.out.oC HMg.out.ap HMg.out.lT HMg.out.lC hszg (by omega) (by omega) (by omega)).mono ?_
      rintro e w17 ⟨rfl, hoT, hoC, honly, hkeep⟩
      have HF17 : Hid (St w [(itT w7.heap.size (w8.alloc (.cells #[(.slice A2 T.length k2), (.slice D2 L.length d2)] 45)).heap.size w8.heap.size (.slice A2 T.length k2) (.slice D2 L.length d2) (marksPl 1 T.length) (marks (1 + 2 * T.length) L.length)), (rwQ (w6.alloc (.cells #[.int .i64 s0, (.slice (some ⟨g6, 0, none⟩) l0.length l0.length)] 25)).heap.size w7.heap.size (.slice (some ⟨g7, 0, none⟩) l1.length l1.length) (marksPl (1 + l0.length) l1.length)), (bxG w6.heap.size s0 (.slice (some ⟨g6, 0, none⟩) l0.length l0.length)), (rwI (w5.alloc (.cells #[(.slice A1 T.length k1), (.slice D1 L.length d1)] 45)).heap.size w6.heap.size (.slice (some ⟨g6, 0, none⟩) l0.length l0.length) (marks (1) l0.length)), (itT w4.heap.size (w5.alloc (.cells #[(.slice A1 T.length k1), (.slice D1 L.length d1)] 45)).heap.size w5.heap.size (.slice A1 T.length k1) (.slice D1 L.length d1) T L), (bxG (w.heap.size) s0 (.slice a0 l0.length c0))] w17) := HF16.out.turn 0 (itT w7.heap.size (w8.alloc (.cells #[(.slice A2 T.length k2), (.slice D2 L.length d2)] 45)).heap.size w8.heap.size (.slice A2 T.length k2) (.slice D2 L.length d2) (marksPl 1 T.length) (marks (1 + 2 * T.length) L.length)) rfl rfl rfl honly (HMg.out.marked (hkeep _ (Nat.lt_of_lt_of_le HMg.out.hq.2 hszg) HMg.out.aT HMg.out.aC) hoT hoC)
      clear hoT hoC honly hkeep hszg HMg HF16 r0 r1
      have HMg : Hid (TA w17 w7.heap.size (w8.alloc (.cells #[(.slice A2 T.length k2), (.slice D2 L.length d2)] 45)).heap.size w8.heap.size (.slice A2 T.length k2) (.slice D2 L.length d2) (marksPl 1 T.length) (marks (1 + 2 * T.length) L.length)) := HF17.out.get 0 rfl
      obtain ⟨r0, r1, _, _⟩ := HMg.out.m
      go_wp2_with fail
      refine (heldTables_any A2 k2 D2 d2 1 T.length L.length _ HMg.out.oT.r HMg.out.oC.ri (by omega) (by omega) (by omega)).mono ?_
      rintro e w18 ⟨rfl, hb18⟩
      have HF18 := Lib.hid (HF17.out.below hb18)
      clear hb18 HF17 HMg r0 r1
      obtain ⟨p0, p1, _, _⟩ := HF18.out.get 5 rfl
      go_wp2_with fail
      refine (toGrid_any s0 a0 c0 l0 _ (HR0.out.below' HF18.out.bel) (by omega)).mono ?_
      rintro e w19 ⟨g19, rfl, ho19, hb19⟩
      have HF19 := Lib.hid (HF18.out.below hb19)
      have HO19_0 := Lib.hid ho19
      clear hb19 ho19 HF18 p0 p1
      go_wp2_with fail
      refine (toPls_b a1 c1 l1 _ (HR1.out.below' HF19.out.bel) (by omega)).mono ?_
      rintro e w20 ⟨g20, rfl, ho20, hb20⟩
      have HF20 := Lib.hid (HF19.out.below hb20)
      have HO20_0 := Lib.hid (HO19_0.out.keep hb20)
      clear HO19_0
      have HO20_1 := Lib.hid ho20
      clear hb20 ho20 HF19 
      go_wp2_with fail
      refine (hI _ l0.length _ l1.length w20 HO20_0.out.ri HO20_1.out.r).mono ?_
      rintro e w21 ⟨A3, k3, D3, d3, rfl, hoT, hoC, hap, hb21⟩
      have HF21 := Lib.hid (HF20.out.push (hb21.alloc hb21.size (.cells #[(.slice A3 T.length k3), (.slice D3 L.length d3)] 45)) (itT w20.heap.size (w21.alloc (.cells #[(.slice A3 T.length k3), (.slice D3 L.length d3)] 45)).heap.size w21.heap.size (.slice A3 T.length k3) (.slice D3 L.length d3) T L) (Nat.le_refl _) (Nat.le_refl _) (TA.new hoT hoC hap (Nat.le_refl _) hb21.size))
      clear hb21 hoT hoC hap HF20 HO20_0 HO20_1
      have HMm : Hid (TA (w21.alloc (.cells #[(.slice A3 T.length k3), (.slice D3 L.length d3)] 45)) w4.heap.size (w5.alloc (.cells #[(.slice A1 T.length k1), (.slice D1 L.length d1)] 45)).heap.size w5.heap.size (.slice A1 T.length k1) (.slice D1 L.length d1) T L) := HF21.out.get 5 rfl
      have HMg : Hid (TA (w21.alloc (.cells #[(.slice A3 T.length k3), (.slice D3 L.length d3)] 45)) w20.heap.size (w21.alloc (.cells #[(.slice A3 T.length k3), (.slice D3 L.length d3)] 45)).heap.size w21.heap.size (.slice A3 T.length k3) (.slice D3 L.length d3) T L) := HF21.out.get 0 rfl
      obtain ⟨q0, q1, _, _⟩ := HMm.out.m
      obtain ⟨r0, r1, _, _⟩ := HMg.out.m
      go_wp2_with fail
      refine (eqTables_any A3 A1 k3 k1 D3 D1 d3 d1 T L _ HMg.out.oT.r HMm.out.oT.r HMg.out.oC.ri HMm.out.oC.ri (by omega) (by omega)).mono ?_
      rintro e w22 ⟨rfl, hb22⟩
      have HF22 := Lib.hid (HF21.out.below hb22)
      clear hb22 HF21 HMm HMg q0 q1 r0 r1
      have HMg : Hid (TA w22 w7.heap.size (w8.alloc (.cells #[(.slice A2 T.length k2), (.slice D2 L.length d2)] 45)).heap.size w8.heap.size (.slice A2 T.length k2) (.slice D2 L.length d2) (marksPl 1 T.length) (marks (1 + 2 * T.length) L.length)) := HF22.out.get 1 rfl
      obtain ⟨r0, r1, _, _⟩ := HMg.out.m
      go_wp2_with fail
      refine (heldTables_any A2 k2 D2 d2 1 T.length L.length _ HMg.out.oT.r HMg.out.oC.ri (by omega) (by omega) (by omega)).mono ?_
      rintro e w23 ⟨rfl, hb23⟩
      have HF23 := Lib.hid (HF22.out.below hb23)
      clear hb23 HF22 HMg r0 r1
      go_wp2
      go_ret
      exact ⟨rfl, HF23.out.bel⟩
    · rw [if_neg hl1] at hsz1
      go_enter Try.func9, Try.ntmps9
      go_wp2_with fail
      refine (hsz0 _).mono ?_
      rintro e w1 ⟨rfl, hb1⟩
      have HF1 := Lib.hid (HF0.out.below hb1)
      clear hb1 HF0 
      go_wp2_with fail
      refine (hsz1 _).mono ?_
      rintro e w2 ⟨rfl, hb2⟩
      have HF2 := Lib.hid (HF1.out.below hb2)
      clear hb2 HF1 
      go_wp2
      go_ret
      exact ⟨rfl, HF2.out.bel⟩
  · rw [if_neg hl0] at hsz0
    go_enter Try.func9, Try.ntmps9
    go_wp2_with fail
    refine (hsz0 _).mono ?_
    rintro e w1 ⟨rfl, hb1⟩
    have HF1 := Lib.hid (HF0.out.below hb1)
    clear hb1 HF0 
    go_wp2
    go_ret
    exact ⟨rfl, HF1.out.bel⟩

set_option maxRecDepth 100000 in
theorem lifted (os : Os) (started : os.Started) (H : Type) (enc : TypeId × Value → H) :
    ReturnsInHanded {} Try.checked os 9 .any (Rows.fnExactBakeSpec.pre6 enc Try.prog Try.f9 Rows.fnExactBakeRow.domain false) (Rows.fnExactBakeSpec.post enc Try.prog Try.f9 false true false false) := by
  refine returnsInHanded_of_change (C := Try.checked) own started (by kernel_rfl) Try.func9
    (ChangeSpec.witness6 (enc := enc) (C := Try.checked) false ⟨#[], #[.agg #[.int .i64 0, .slice none 0 0], .slice none 0 0], []⟩ 8 (by kernel_rfl) (by kernel_rfl) (by kernel_rfl) (by kernel_rfl)) ?_
  intro W base args ds gs before hval0 hW hcnd _
  have hval : ∀ (j : Nat) t v, Try.f9.params[j]? = some t → args[j]? = some v → Value.okWide Try.prog W .any base t v := hval0
  have hW' := hW
  obtain ⟨p, q, hA0, hV, rfl, hfz, hnd⟩ := hW
  have hA : DataW.TrodAll enc Try.prog W 0 (fun _ => true) true Try.f9.params.toList args.toList ds p := hA0
  rw [Try.params9] at hA hval
  obtain ⟨v0, vs0, d0, ds0, p0, q0, hargs, rfl, rfl, h0, r0⟩ := trodAll_cons hA
  obtain ⟨v1, vs1, d1, ds1, p1, q1, rfl, rfl, rfl, h1, r1⟩ := trodAll_cons r0
  obtain ⟨rfl, rfl, rfl⟩ := trodAll_nil r1
  obtain rfl : args = #[v0, v1] := by cases args; simp_all
  obtain ⟨rfl, rfl⟩ := trodVars_none hV
  have k0 := h0
  have lt0 : ∀ x ∈ p0, x.block < W.heap.size := by obtain ⟨m, hm⟩ := k0; exact DataW.trod_lt m _ _ _ hm
  obtain ⟨side0, a0, cap0, z0, rfl, w0⟩ := open_grid (hval 0 53 v0 rfl rfl) h0
  have k1 := h1
  have lt1 : ∀ x ∈ p1, x.block < W.heap.size := by obtain ⟨m, hm⟩ := k1; exact DataW.trod_lt m _ _ _ hm
  obtain ⟨a1, cap1, z1, rfl, w1⟩ := openPls (hval 1 78 v1 rfl rfl) h1
  clear hA0 hval0
  refine (walk side0 a0 cap0 z0 a1 cap1 z1 W w0 w1).mono fun e W' ⟨he, bel⟩ => ?_
  subst he
  exact ⟨_, rfl, _, _, _, [], _, [], hW', trodAll_mk1 (shut_bool Try.underlying4 _), (trodAll_cons_mk (Below.trod laidOut (by kernel_rfl) (of_decide_eq_true (by kernel_rfl)) k0 bel lt0) (trodAll_cons_mk (Below.trod laidOut (by kernel_rfl) (of_decide_eq_true (by kernel_rfl)) k1 bel lt1) trodAll_mk0)), rfl, bel.frame _, fun h => by cases h⟩

theorem over : Rows.fnExactBakeRow.holds Try.pinned (OpenSpec.ofChange Rows.fnExactBakeSpec) :=
  OpenClaim.holds_of_wide 9 Try.f9 rfl rfl rfl rfl rfl rfl rfl ⟨rfl, rfl, rfl, rfl, rfl⟩ rfl rfl rfl rfl rfl (by kernel_rfl) Try.func9 (by kernel_rfl)
    (of_decide_eq_true (by kernel_rfl)) (by unfold Func.isWrapper; first | (rw [if_pos (by decide +kernel)]; kernel_rfl) | (rw [if_neg (by decide +kernel)]; exact ⟨rfl, rfl⟩))
    (fun os started H enc _ => lifted os started H enc)

end Go.Proofs.Ytbcnfohbiagfpaa.fnExactBake
namespace Go.Proofs.Ytbcnfohbiagfpaa
/-- The statement. -/
theorem fnExactBake_holds : Rows.FnExactBakeSaid := fnExactBake.over
end Go.Proofs.Ytbcnfohbiagfpaa
