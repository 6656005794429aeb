/- FnExactTurn: for every input the law returns true, and its arguments read as before. No condition beyond the row's own. -/
import Derived.Test.YtoobkajilbmdhaaRows
import Derived.WalkKit
import Derived.ProofKit
import Derived.OpenShut
import Derived.ShutString
import Derived.ChangeOld
import Derived.Below
import Derived.WalkSpells
import Derived.WalkLawsBesides
import Derived.Lib.Hide
import Derived.Test.YtoobkajilbmdhaaTuQ
import Derived.Test.YtoobkajilbmdhaaGWalkS
import Derived.Test.YtoobkajilbmdhaaItems
namespace Go.Proofs.Ytoobkajilbmdhaa.fnExactTurn
open Go.ChangeShapes Go.WideShapes Go.ChangeAt Go.RowKit
open Go.ChangeMaps (open_string shut_string)
set_option linter.unusedVariables false

theorem own : ownKnob Try.prog.godebug = none := by kernel_rfl
theorem laidOut : laidOutB Try.prog = true := by kernel_rfl

set_option maxRecDepth 100000 in
set_option maxHeartbeats 4000000 in
theorem walk (s0 : Int) (a0 : Option Addr) (c0 : Nat) (l0 : List Int) (n1 : Int) (w : World) (h0 : InGrid w s0 a0 l0) (h1 : (Lit.int .i64 n1).wf = true) :
    Calls Try.prog 4 #[.agg #[.int .i64 s0, .slice a0 l0.length c0], .int .i64 n1] w fun e w' => e = .returned (.bool true) ∧ Below w.heap.size w w' := by
  have HR0 := Lib.hid h0.2.1
  have hlm0 := h0.2.2.1
  have HS0 := Lib.hid h0.nums
  have HS1 := Lib.hid (bounds_i64 h1)
  unfold maxLen at hlm0
  clear h0 h1
  have HF0 : Hid (St w [(bxG (w.heap.size) s0 (.slice a0 l0.length c0))] (w.alloc (.cells #[.int .i64 s0, .slice a0 l0.length c0] 35))) := by
    have := ((St.start w).push ((Below.refl _ w).alloc (Nat.le_refl _) (.cells #[.int .i64 s0, .slice a0 l0.length c0] 35)) (bxG w.heap.size s0 (.slice a0 l0.length c0)) (Nat.le_refl _) (by simp [bxG]) (GB.made w s0 (.slice a0 l0.length c0) 35))
    exact this
  have hsz0 := fun w => szGrid_any s0 (1048576) a0 l0.length c0 w (by omega) (by decide) (by decide)
  by_cases hl0 : (l0.length : Int) ≤ 1048576
  · rw [if_pos hl0] at hsz0
    have hleft1 : (0 : Int) ≤ 1048576 - l0.length := by omega
    have hM := fun A0 c0' w h0 => mTurnO s0 n1 A0 c0' l0 w h0 (by omega)
    have hI := fun A0 c0' w h0 => pTurnO s0 n1 A0 c0' l0 w h0 (by omega)
    have hlen := turnO_len s0 l0 n1
    generalize turnO s0 l0 n1 = RES at *
    obtain ⟨C, S, L⟩ := RES
    simp only at hM hI hlen
    go_enter Try.func4, Try.ntmps4
    go_wp2_with fail
    refine (hsz0 _).mono ?_
    rintro e w1 ⟨rfl, hb1⟩
    have HF1 := Lib.hid (HF0.out.below hb1)
    clear hb1 HF0 
    clear hsz0
    obtain ⟨p0, p1, _, _⟩ := HF1.out.get 0 rfl
    go_wp2_with fail
    refine (toGrid_any s0 a0 c0 l0 _ (HR0.out.below' HF1.out.bel) (by omega)).mono ?_
    rintro e w2 ⟨g2, rfl, ho2, hb2⟩
    have HF2 := Lib.hid (HF1.out.below hb2)
    have HO2_0 := Lib.hid ho2
    clear hb2 ho2 HF1 p0 p1
    go_wp2_with fail
    refine (hM _ l0.length w2 HO2_0.out.ri).mono ?_
    rintro e w3 ⟨A1, k1, rfl, ho3, hb3⟩
    have HF3 := Lib.hid (HF2.out.push hb3 (rwI w2.heap.size w3.heap.size (.slice A1 L.length k1) L) (Nat.le_refl _) (Nat.le_refl _) ⟨ho3, ho3.lies⟩)
    have HG3 := Lib.hid (HF3.out.push ((Below.refl _ w3).alloc (Nat.le_refl _) (.cells #[.int .i64 S, (.slice A1 L.length k1), .int .i64 C] 39)) (bxO w3.heap.size S (.slice A1 L.length k1) C) (Nat.le_refl _) (by simp [bxO]) (GC.made w3 S C (.slice A1 L.length k1) 39))
    clear HF3
    clear hb3 ho3 HF2 HO2_0
    obtain ⟨p0, p1, _, _⟩ := HG3.out.get 2 rfl
    go_wp2_with fail
    refine (toGrid_any s0 a0 c0 l0 _ (HR0.out.below' HG3.out.bel) (by omega)).mono ?_
    rintro e w4 ⟨g4, rfl, ho4, hb4⟩
    have HF4 := Lib.hid (HG3.out.push hb4 (rwI (w3.alloc (.cells #[.int .i64 S, (.slice A1 L.length k1), .int .i64 C] 39)).heap.size w4.heap.size (.slice (some ⟨g4, 0, none⟩) l0.length l0.length) l0) (Nat.le_refl _) (Nat.le_refl _) ⟨ho4, ho4.lies⟩)
    have HG4 := Lib.hid (HF4.out.push ((Below.refl _ w4).alloc (Nat.le_refl _) (.cells #[.int .i64 s0, (.slice (some ⟨g4, 0, none⟩) l0.length l0.length)] 37)) (bxG w4.heap.size s0 (.slice (some ⟨g4, 0, none⟩) l0.length l0.length)) (Nat.le_refl _) (by simp [bxG]) (GB.made w4 s0 (.slice (some ⟨g4, 0, none⟩) l0.length l0.length) 37))
    clear HF4
    clear hb4 ho4 HG3 p0 p1
    obtain ⟨x00, x01, _, _⟩ := HG4.out.get 0 rfl
    go_wp2_with fail
    have HQ0 : Hid (OwnI 2 .i64 (w4.alloc (.cells #[.int .i64 s0, (.slice (some ⟨g4, 0, none⟩) l0.length l0.length)] 37)) (w3.alloc (.cells #[.int .i64 S, (.slice A1 L.length k1), .int .i64 C] 39)).heap.size (.slice (some ⟨g4, 0, none⟩) l0.length l0.length) l0) := (HG4.out.get 1 rfl).1
    refine (hI _ l0.length _ HQ0.out.ri).mono ?_
    rintro e w5 ⟨A2, k2, rfl, ho5, hb5⟩
    have HF5 := Lib.hid (HG4.out.push hb5 (rwI (w4.alloc (.cells #[.int .i64 s0, (.slice (some ⟨g4, 0, none⟩) l0.length l0.length)] 37)).heap.size w5.heap.size (.slice A2 L.length k2) L) (Nat.le_refl _) (Nat.le_refl _) ⟨ho5, ho5.lies⟩)
    have HG5 := Lib.hid (HF5.out.push ((Below.refl _ w5).alloc (Nat.le_refl _) (.cells #[.int .i64 S, (.slice A2 L.length k2), .int .i64 C] 39)) (bxO w5.heap.size S (.slice A2 L.length k2) C) (Nat.le_refl _) (by simp [bxO]) (GC.made w5 S C (.slice A2 L.length k2) 39))
    clear HF5
    clear hb5 ho5 HG4 HQ0 x00 x01
    obtain ⟨q0, q1, q2⟩ := HG5.out.get 4 rfl
    obtain ⟨r0, r1, r2⟩ := HG5.out.get 0 rfl
    go_wp2_with fail
    have HM6 : Hid (OwnI 2 .i64 (w5.alloc (.cells #[.int .i64 S, (.slice A2 L.length k2), .int .i64 C] 39)) w2.heap.size (.slice A1 L.length k1) L) := (HG5.out.get 5 rfl).1
    have HN6 : Hid (OwnI 2 .i64 (w5.alloc (.cells #[.int .i64 S, (.slice A2 L.length k2), .int .i64 C] 39)) (w4.alloc (.cells #[.int .i64 s0, (.slice (some ⟨g4, 0, none⟩) l0.length l0.length)] 37)).heap.size (.slice A2 L.length k2) L) := (HG5.out.get 1 rfl).1
    refine (eqGridOut_any S C A2 A1 k2 k1 L _ HN6.out.ri HM6.out.ri (by omega)).mono ?_
    rintro e w6 ⟨rfl, hb6⟩
    have HF6 := Lib.hid (HG5.out.below hb6)
    clear hb6 HG5 HM6 HN6 q0 q1 q2 r0 r1 r2
    obtain ⟨x0, x1, _, _⟩ := HF6.out.get 2 rfl
    obtain ⟨p0, p1, _, _⟩ := HF6.out.get 6 rfl
    go_wp2_with fail
    have HFd := Lib.hid HF6.out.drew
    have HT7 := Lib.hid (toGrid_any s0 a0 c0 l0 w6.drew (HR0.out.below' HFd.out.bel) (by omega))
    go_region_held3 (fun w' => w'.cell? ⟨w4.heap.size, 0, none⟩ = some (.int .i64 s0) ∧ w'.cell? ⟨w4.heap.size, 1, none⟩ = some ((.slice (some ⟨g4, 0, none⟩) l0.length l0.length)) ∧ w'.cell? ⟨(w.heap.size), 0, none⟩ = some (.int .i64 s0) ∧ w'.cell? ⟨(w.heap.size), 1, none⟩ = some (.slice a0 l0.length c0))
      (first
        | go_keep
        | exact hk8
        | exact hk7)
      (first
        | (go_at_call 16; refine (eqGrid_any s0 _ _ l0.length l0.length l0 w7 HQ0.out.ri ho7.ri (by omega)).mono ?_; rintro e w8 ⟨rfl, hb8⟩; have HF8 := Lib.hid (HF7.out.below hb8); have hk8 := And.intro (HF8.out.get 2 rfl : (GB w8 w4.heap.size s0 (.slice (some ⟨g4, 0, none⟩) l0.length l0.length))).c0 (And.intro (HF8.out.get 2 rfl : (GB w8 w4.heap.size s0 (.slice (some ⟨g4, 0, none⟩) l0.length l0.length))).c1 (And.intro (HF8.out.get 6 rfl : (GB w8 (w.heap.size) s0 (.slice a0 l0.length c0))).c0 ((HF8.out.get 6 rfl : (GB w8 (w.heap.size) s0 (.slice a0 l0.length c0))).c1))))
        | (go_at_call 13; refine HT7.out.mono ?_; rintro e w7 ⟨g7, rfl, ho7, hb7⟩; have HF7 := Lib.hid (HFd.out.below hb7); have HQ0 : Hid (OwnI 2 .i64 w7 (w3.alloc (.cells #[.int .i64 S, (.slice A1 L.length k1), .int .i64 C] 39)).heap.size (.slice (some ⟨g4, 0, none⟩) l0.length l0.length) l0) := (HF7.out.get 3 rfl).1; have hk7 := And.intro (HF7.out.get 2 rfl : (GB w7 w4.heap.size s0 (.slice (some ⟨g4, 0, none⟩) l0.length l0.length))).c0 (And.intro (HF7.out.get 2 rfl : (GB w7 w4.heap.size s0 (.slice (some ⟨g4, 0, none⟩) l0.length l0.length))).c1 (And.intro (HF7.out.get 6 rfl : (GB w7 (w.heap.size) s0 (.slice a0 l0.length c0))).c0 ((HF7.out.get 6 rfl : (GB w7 (w.heap.size) s0 (.slice a0 l0.length c0))).c1)))))
    rename_i hheld
    clear hheld hk7 hk8 ho7 hb7 hb8 HT7 HF7 HFd HQ0 HF6 x0 x1 p0 p1
    obtain ⟨x0, x1, _, _⟩ := HF8.out.get 2 rfl
    go_wp2_with fail
    have HQ0 : Hid (OwnI 2 .i64 w8 (w3.alloc (.cells #[.int .i64 S, (.slice A1 L.length k1), .int .i64 C] 39)).heap.size (.slice (some ⟨g4, 0, none⟩) l0.length l0.length) l0) := (HF8.out.get 3 rfl).1
    have HL0 : Hid (Lies (.slice (some ⟨g4, 0, none⟩) l0.length l0.length) (w3.alloc (.cells #[.int .i64 S, (.slice A1 L.length k1), .int .i64 C] 39)).heap.size w4.heap.size) := (HF8.out.get 3 rfl).2
    refine (markGrid_any s0 _ l0.length (w3.alloc (.cells #[.int .i64 S, (.slice A1 L.length k1), .int .i64 C] 39)).heap.size (1) l0 _ HQ0.out (by omega) (by omega)).mono ?_
    rintro e w9 ⟨rfl, ho, hg⟩
    have HF9 : Hid (St w [(bxO w5.heap.size S (.slice A2 L.length k2) C), (rwI (w4.alloc (.cells #[.int .i64 s0, (.slice (some ⟨g4, 0, none⟩) l0.length l0.length)] 37)).heap.size w5.heap.size (.slice A2 L.length k2) L), (bxG w4.heap.size s0 (.slice (some ⟨g4, 0, none⟩) l0.length l0.length)), (rwI (w3.alloc (.cells #[.int .i64 S, (.slice A1 L.length k1), .int .i64 C] 39)).heap.size w4.heap.size (.slice (some ⟨g4, 0, none⟩) l0.length l0.length) (marks (1) l0.length)), (bxO w3.heap.size S (.slice A1 L.length k1) C), (rwI w2.heap.size w3.heap.size (.slice A1 L.length k1) L), (bxG (w.heap.size) s0 (.slice a0 l0.length c0))] w9) := HF8.out.turn 3 (rwI (w3.alloc (.cells #[.int .i64 S, (.slice A1 L.length k1), .int .i64 C] 39)).heap.size w4.heap.size (.slice (some ⟨g4, 0, none⟩) l0.length l0.length) (marks (1) l0.length)) rfl rfl rfl (Only.grown hg HL0.out) ⟨ho, HL0.out⟩
    clear ho hg HQ0 HL0 HF8 x0 x1
    obtain ⟨q0, q1, q2⟩ := HF9.out.get 4 rfl
    obtain ⟨r0, r1, r2⟩ := HF9.out.get 0 rfl
    go_wp2_with fail
    have HM10 : Hid (OwnI 2 .i64 w9 w2.heap.size (.slice A1 L.length k1) L) := (HF9.out.get 5 rfl).1
    have HN10 : Hid (OwnI 2 .i64 w9 (w4.alloc (.cells #[.int .i64 s0, (.slice (some ⟨g4, 0, none⟩) l0.length l0.length)] 37)).heap.size (.slice A2 L.length k2) L) := (HF9.out.get 1 rfl).1
    refine (eqGridOut_any S C A2 A1 k2 k1 L _ HN10.out.ri HM10.out.ri (by omega)).mono ?_
    rintro e w10 ⟨rfl, hb10⟩
    have HF10 := Lib.hid (HF9.out.below hb10)
    clear hb10 HF9 HM10 HN10 q0 q1 q2 r0 r1 r2
    obtain ⟨r0, r1, r2⟩ := HF10.out.get 0 rfl
    go_wp2_with fail
    have HN : Hid (OwnI 2 .i64 w10 (w4.alloc (.cells #[.int .i64 s0, (.slice (some ⟨g4, 0, none⟩) l0.length l0.length)] 37)).heap.size (.slice A2 L.length k2) L) := (HF10.out.get 1 rfl).1
    have HLg : Hid (Lies (.slice A2 L.length k2) (w4.alloc (.cells #[.int .i64 s0, (.slice (some ⟨g4, 0, none⟩) l0.length l0.length)] 37)).heap.size w5.heap.size) := (HF10.out.get 1 rfl).2
    refine (markGridOut_any S C A2 k2 (w4.alloc (.cells #[.int .i64 s0, (.slice (some ⟨g4, 0, none⟩) l0.length l0.length)] 37)).heap.size 1 L _ HN.out (by omega) (by omega)).mono ?_
    rintro e w11 ⟨rfl, ho, hg⟩
    have HF11 : Hid (St w [(bxO w5.heap.size S (.slice A2 L.length k2) C), (rwI (w4.alloc (.cells #[.int .i64 s0, (.slice (some ⟨g4, 0, none⟩) l0.length l0.length)] 37)).heap.size w5.heap.size (.slice A2 L.length k2) (marks 1 L.length)), (bxG w4.heap.size s0 (.slice (some ⟨g4, 0, none⟩) l0.length l0.length)), (rwI (w3.alloc (.cells #[.int .i64 S, (.slice A1 L.length k1), .int .i64 C] 39)).heap.size w4.heap.size (.slice (some ⟨g4, 0, none⟩) l0.length l0.length) (marks (1) l0.length)), (bxO w3.heap.size S (.slice A1 L.length k1) C), (rwI w2.heap.size w3.heap.size (.slice A1 L.length k1) L), (bxG (w.heap.size) s0 (.slice a0 l0.length c0))] w11) := HF10.out.turn 1 (rwI (w4.alloc (.cells #[.int .i64 s0, (.slice (some ⟨g4, 0, none⟩) l0.length l0.length)] 37)).heap.size w5.heap.size (.slice A2 L.length k2) (marks 1 L.length)) rfl rfl rfl (Only.grown hg HLg.out) ⟨ho, HLg.out⟩
    clear ho hg HN HLg HF10 r0 r1 r2
    obtain ⟨r0, r1, r2⟩ := HF11.out.get 0 rfl
    go_wp2_with fail
    have HN : Hid (OwnI 2 .i64 w11 (w4.alloc (.cells #[.int .i64 s0, (.slice (some ⟨g4, 0, none⟩) l0.length l0.length)] 37)).heap.size (.slice A2 L.length k2) (marks 1 L.length)) := (HF11.out.get 1 rfl).1
    refine (heldGridOut_any S C A2 k2 1 L.length _ HN.out.ri (by omega) (by omega)).mono ?_
    rintro e w12 ⟨rfl, hb12⟩
    have HF12 := Lib.hid (HF11.out.below hb12)
    clear hb12 HN HF11 r0 r1 r2
    obtain ⟨p0, p1, _, _⟩ := HF12.out.get 6 rfl
    go_wp2_with fail
    refine (toGrid_any s0 a0 c0 l0 _ (HR0.out.below' HF12.out.bel) (by omega)).mono ?_
    rintro e w13 ⟨g13, rfl, ho13, hb13⟩
    have HF13 := Lib.hid (HF12.out.below hb13)
    have HO13_0 := Lib.hid ho13
    clear hb13 ho13 HF12 p0 p1
    go_wp2_with fail
    refine (hI _ l0.length w13 HO13_0.out.ri).mono ?_
    rintro e w14 ⟨A3, k3, rfl, ho14, hb14⟩
    have HF14 := Lib.hid (HF13.out.below hb14)
    have HOr14 := Lib.hid ho14
    have HG14 := Lib.hid (HF14.out.below ((Below.refl _ w14).alloc (Nat.le_refl _) (.cells #[.int .i64 S, (.slice A3 L.length k3), .int .i64 C] 39)))
    have HOs14 := Lib.hid (HOr14.out.alloc (.cells #[.int .i64 S, (.slice A3 L.length k3), .int .i64 C] 39))
    clear HF14 HOr14
    clear hb14 ho14 HF13 HO13_0
    obtain ⟨q0, q1, q2⟩ := HG14.out.get 4 rfl
    go_wp2_with fail
    have HM15 : Hid (OwnI 2 .i64 (w14.alloc (.cells #[.int .i64 S, (.slice A3 L.length k3), .int .i64 C] 39)) w2.heap.size (.slice A1 L.length k1) L) := (HG14.out.get 5 rfl).1
    refine (eqGridOut_any S C A3 A1 k3 k1 L _ HOs14.out.ri HM15.out.ri (by omega)).mono ?_
    rintro e w15 ⟨rfl, hb15⟩
    have HF15 := Lib.hid (HG14.out.below hb15)
    clear hb15 HG14 HM15 HOs14 q0 q1 q2
    obtain ⟨r0, r1, r2⟩ := HF15.out.get 0 rfl
    go_wp2_with fail
    have HN : Hid (OwnI 2 .i64 w15 (w4.alloc (.cells #[.int .i64 s0, (.slice (some ⟨g4, 0, none⟩) l0.length l0.length)] 37)).heap.size (.slice A2 L.length k2) (marks 1 L.length)) := (HF15.out.get 1 rfl).1
    refine (heldGridOut_any S C A2 k2 1 L.length _ HN.out.ri (by omega) (by omega)).mono ?_
    rintro e w16 ⟨rfl, hb16⟩
    have HF16 := Lib.hid (HF15.out.below hb16)
    clear hb16 HN HF15 r0 r1 r2
    go_wp2
    go_ret
    exact ⟨rfl, HF16.out.bel⟩
  · rw [if_neg hl0] at hsz0
    go_enter Try.func4, Try.ntmps4
    go_wp2_with fail
    refine (hsz0 _).mono ?_
    rintro e w1 ⟨rfl, hb1⟩
    have HF1 := Lib.hid (HF0.out.below hb1)
    clear hb1 HF0 
    go_wp2
    go_ret
    exact ⟨rfl, HF1.out.bel⟩

set_option maxRecDepth 100000 in
theorem lifted (os : Os) (started : os.Started) (H : Type) (enc : TypeId × Value → H) :
    ReturnsInHanded {} Try.checked os 4 .any (Rows.fnExactTurnSpec.pre6 enc Try.prog Try.f4 Rows.fnExactTurnRow.domain false) (Rows.fnExactTurnSpec.post enc Try.prog Try.f4 false true false false) := by
  refine returnsInHanded_of_change (C := Try.checked) own started (by kernel_rfl) Try.func4
    (ChangeSpec.witness6 (enc := enc) (C := Try.checked) false ⟨#[], #[.agg #[.int .i64 0, .slice none 0 0], .int .i64 0], []⟩ 8 (by kernel_rfl) (by kernel_rfl) (by kernel_rfl) (by kernel_rfl)) ?_
  intro W base args ds gs before hval0 hW hcnd _
  have hval : ∀ (j : Nat) t v, Try.f4.params[j]? = some t → args[j]? = some v → Value.okWide Try.prog W .any base t v := hval0
  have hW' := hW
  obtain ⟨p, q, hA0, hV, rfl, hfz, hnd⟩ := hW
  have hA : DataW.TrodAll enc Try.prog W 0 (fun _ => true) true Try.f4.params.toList args.toList ds p := hA0
  rw [Try.params4] at hA hval
  obtain ⟨v0, vs0, d0, ds0, p0, q0, hargs, rfl, rfl, h0, r0⟩ := trodAll_cons hA
  obtain ⟨v1, vs1, d1, ds1, p1, q1, rfl, rfl, rfl, h1, r1⟩ := trodAll_cons r0
  obtain ⟨rfl, rfl, rfl⟩ := trodAll_nil r1
  obtain rfl : args = #[v0, v1] := by cases args; simp_all
  obtain ⟨rfl, rfl⟩ := trodVars_none hV
  have k0 := h0
  have lt0 : ∀ x ∈ p0, x.block < W.heap.size := by obtain ⟨m, hm⟩ := k0; exact DataW.trod_lt m _ _ _ hm
  obtain ⟨side0, a0, cap0, z0, rfl, w0⟩ := open_grid (hval 0 35 v0 rfl rfl) h0
  obtain ⟨a1, rfl, rfl, rfl, w1⟩ := open_int Try.underlying2 (hval 1 2 v1 rfl rfl) h1
  clear hA0 hval0
  refine (walk side0 a0 cap0 z0 a1 W w0 w1).mono fun e W' ⟨he, bel⟩ => ?_
  subst he
  exact ⟨_, rfl, _, _, _, [], _, [], hW', trodAll_mk1 (shut_bool Try.underlying4 _), (trodAll_cons_mk (Below.trod laidOut (by kernel_rfl) (of_decide_eq_true (by kernel_rfl)) k0 bel lt0) (trodAll_cons_mk (shut_int Try.underlying2 w1) trodAll_mk0)), rfl, bel.frame _, fun h => by cases h⟩

theorem over : Rows.fnExactTurnRow.holds Try.pinned (OpenSpec.ofChange Rows.fnExactTurnSpec) :=
  OpenClaim.holds_of_wide 4 Try.f4 rfl rfl rfl rfl rfl rfl rfl ⟨rfl, rfl, rfl, rfl, rfl⟩ rfl rfl rfl rfl rfl (by kernel_rfl) Try.func4 (by kernel_rfl)
    (of_decide_eq_true (by kernel_rfl)) (by unfold Func.isWrapper; first | (rw [if_pos (by decide +kernel)]; kernel_rfl) | (rw [if_neg (by decide +kernel)]; exact ⟨rfl, rfl⟩))
    (fun os started H enc _ => lifted os started H enc)

end Go.Proofs.Ytoobkajilbmdhaa.fnExactTurn
namespace Go.Proofs.Ytoobkajilbmdhaa
/-- The statement. -/
theorem fnExactTurn_holds : Rows.FnExactTurnSaid := fnExactTurn.over
end Go.Proofs.Ytoobkajilbmdhaa
