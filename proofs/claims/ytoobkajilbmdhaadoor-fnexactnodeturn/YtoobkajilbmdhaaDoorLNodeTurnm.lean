/- FnExactNodeTurn: for every input the law returns true, and its arguments read as before. The row lists the table of math/bits, and the card ties it to the program's text. No other condition. -/
import Derived.Test.YtoobkajilbmdhaaDoorCards
import Derived.Test.YtoobkajilbmdhaaDoorTie
import Derived.WalkKit
import Derived.ProofKit
import Derived.OpenShut
import Derived.ShutString
import Derived.ChangeOld
import Derived.Below
import Derived.WalkSpells
import Derived.WalkLawsBesides
import Derived.Lib.Hide
import Derived.ChangeSame
import Derived.ChangeVars
import Derived.JoinedOf
import Derived.RowKit
import Derived.RowKitTokens
import Derived.LaidLaws
import Derived.LaidHandle
import Derived.LaidMore
import Derived.Lib.LaidTab
import Derived.Stop.Joined
import Derived.SevenTiedAt
import Derived.Test.YtoobkajilbmdhaaDoorTbP
import Derived.Test.YtoobkajilbmdhaaDoorMSi
import Derived.Test.YtoobkajilbmdhaaDoorMSj
namespace Go.Proofs.YtoobkajilbmdhaaDoor.fnExactNodeTurn
open Go.ChangeShapes Go.WideShapes Go.ChangeAt Go.RowKit
open Go.ChangeMaps (open_string shut_string)
set_option linter.unusedVariables false

theorem own : ownKnob Tryd.prog.godebug = none := by kernel_rfl
theorem laidOut : laidOutB Tryd.prog = true := by kernel_rfl
def tab : List Int := [0, 1, 56, 2, 57, 49, 28, 3, 61, 58, 42, 50, 38, 29, 17, 4, 62, 47, 59, 36, 45, 43, 51, 22, 53, 39, 33, 30, 24, 18, 12, 5, 63, 55, 48, 27, 60, 41, 37, 16, 46, 35, 44, 21, 52, 32, 23, 11, 54, 26, 40, 15, 34, 20, 31, 10, 25, 14, 19, 9, 13, 8, 7, 6]
theorem gTab : Tryd.prog.globalNamed "math/bits.deBruijn64tab" = some 0 := by kernel_rfl
theorem tTab : (Tryd.prog.globals[0]?).map (·.type) = some 136 := by kernel_rfl
theorem cTab : Tryd.prog.cellsOf 136 = 64 := by kernel_rfl
theorem cByte : Tryd.prog.cellsOf 5 = 1 := by kernel_rfl
theorem has_of_laid {W : World} (h : laidMetH Tryd.prog Rows.fnExactNodeTurnRow.laid W) : HasTab W := by
  rw [MakeChecks.laidMetH_plain _ _ _ (by kernel_rfl)] at h
  have h' : laidMet Tryd.prog (("math/bits.deBruijn64tab", Lib.tabData .u8 tab) :: []) W := h
  have hT := Lib.tabIs_of_head gTab tTab Tryd.underlying136 Tryd.underlying5 cByte cTab h'
  exact ⟨hT.cell gTab 0 (by decide), hT.cell gTab 1 (by decide), hT.cell gTab 3 (by decide), hT.cell gTab 7 (by decide)⟩
theorem door_met (os : Os) (args : Array Value) : laidMetH Tryd.prog Rows.fnExactNodeTurnRow.laid ((World.doorLaid Tryd.prog 400 os).forCall (fun _ _ => 0) ⟨#[], args, []⟩).memory :=
  laidMetH_of_parts3 (fuel := 8) (laidMet_of_run' 8 (by kernel_rfl) (by kernel_rfl)) (by kernel_rfl) (by kernel_rfl)

set_option maxRecDepth 100000 in
set_option maxHeartbeats 4000000 in
theorem walk (a0 : Option Addr) (c0 : Nat) (l0 : List Nd) (n1 : Int) (n2 : Int) (n3 : Int) (w : World) (h0 : (RN w w.heap.size a0 l0 ∧ l0.length ≤ maxLen ∧ ∀ n ∈ l0, n.Fits)) (h1 : (Lit.int .i64 n1).wf = true) (h2 : (Lit.int .i64 n2).wf = true) (h3 : (Lit.int .i64 n3).wf = true) (hg : HasTab w) :
    Calls Tryd.prog 5 #[.agg #[.slice a0 l0.length c0], .int .i64 n1, .int .i64 n2, .int .i64 n3] w fun e w' => e = .returned (.bool true) ∧ Below w.heap.size w w' := by
  have HR0 := Lib.hid h0.1
  have hlm0 := h0.2.1
  have HS0 := Lib.hid h0.2.2
  have HS1 := Lib.hid (bounds_i64 h1)
  have HS2 := Lib.hid (bounds_i64 h2)
  have HS3 := Lib.hid (bounds_i64 h3)
  unfold maxLen at hlm0
  have HTAB := Lib.hid hg
  clear h0 h1 h2 h3 hg
  have HF0 : Hid (St w [(bxP (w.heap.size) (.slice a0 l0.length c0))] (w.alloc (.cells #[.slice a0 l0.length c0] 55))) := by
    have := ((St.start w).push ((Below.refl _ w).alloc (Nat.le_refl _) (.cells #[.slice a0 l0.length c0] 55)) (bxP w.heap.size (.slice a0 l0.length c0)) (Nat.le_refl _) (by simp [bxP]) (PB1.made w (.slice a0 l0.length c0) 55))
    exact this
  have hsz0 := fun w => szPool_any (1048576) a0 l0.length c0 w (by omega) (by decide) (by decide)
  by_cases hl0 : (l0.length : Int) ≤ 1048576
  · rw [if_pos hl0] at hsz0
    have hleft1 : (0 : Int) ≤ 1048576 - l0.length := by omega
    have hM := fun A0 c0' w h0 => mNodeTurn_any A0 c0' l0 n1 n2 n3 w h0 (by omega)
    have hI := fun A0 (c0' : Nat) w h0 ht => pNodeTurn_any A0 l0.length l0 n1 n2 n3 w h0 (by omega) (Nat.le_refl _) HS0.out ht
    have hlen := turnP_len l0 n1 n2 n3
    generalize turnP l0 n1 n2 n3 = RES at *
    unfold POut at hM hI
    obtain ⟨C, S, L⟩ := RES
    simp only at hM hI hlen
    go_enter Tryd.func5, Tryd.ntmps5
    go_wp2_with fail
    refine (hsz0 _).mono ?_
    rintro e w1 ⟨rfl, hb1⟩
    have HF1 := Lib.hid (HF0.out.below hb1)
    clear hb1 HF0 
    clear hsz0
    obtain ⟨p0, _⟩ := HF1.out.get 0 rfl
    go_wp2_with fail
    refine (toPool_any a0 c0 l0 _ (HR0.out.below' HF1.out.bel) (by omega)).mono ?_
    rintro e w2 ⟨g2, rfl, ho2, hb2⟩
    have HF2 := Lib.hid (HF1.out.below hb2)
    have HO2_0 := Lib.hid ho2
    clear hb2 ho2 HF1 p0
    go_wp2_with fail
    refine (hM _ l0.length w2 HO2_0.out.rn).mono ?_
    rintro e w3 ⟨A1, k1, rfl, ho3, hb3⟩
    have HF3 := Lib.hid (HF2.out.push hb3 (rwN w2.heap.size w3.heap.size (.slice A1 L.length k1) L) (Nat.le_refl _) (Nat.le_refl _) ⟨ho3, ho3.lies⟩)
    have HG3 := Lib.hid (HF3.out.push ((Below.refl _ w3).alloc (Nat.le_refl _) (.cells #[(.slice A1 L.length k1), .int .i64 S, .int .i64 C] 32)) (bxPO w3.heap.size (.slice A1 L.length k1) S C) (Nat.le_refl _) (by simp [bxPO]) (PO1.made w3 (.slice A1 L.length k1) S C 32))
    clear HF3
    clear hb3 ho3 HF2 HO2_0
    obtain ⟨p0, _⟩ := HG3.out.get 2 rfl
    go_wp2_with fail
    refine (toPool_any a0 c0 l0 _ (HR0.out.below' HG3.out.bel) (by omega)).mono ?_
    rintro e w4 ⟨g4, rfl, ho4, hb4⟩
    have HF4 := Lib.hid (HG3.out.push hb4 (rwN (w3.alloc (.cells #[(.slice A1 L.length k1), .int .i64 S, .int .i64 C] 32)).heap.size w4.heap.size (.slice (some ⟨g4, 0, none⟩) l0.length l0.length) l0) (Nat.le_refl _) (Nat.le_refl _) ⟨ho4, ho4.lies⟩)
    have HG4 := Lib.hid (HF4.out.push ((Below.refl _ w4).alloc (Nat.le_refl _) (.cells #[(.slice (some ⟨g4, 0, none⟩) l0.length l0.length)] 25)) (bxP w4.heap.size (.slice (some ⟨g4, 0, none⟩) l0.length l0.length)) (Nat.le_refl _) (by simp [bxP]) (PB1.made w4 (.slice (some ⟨g4, 0, none⟩) l0.length l0.length) 25))
    clear HF4
    clear hb4 ho4 HG3 p0
    obtain ⟨x00, _⟩ := HG4.out.get 0 rfl
    go_wp2_with fail
    have HQ0 : Hid (OwnN (w4.alloc (.cells #[(.slice (some ⟨g4, 0, none⟩) l0.length l0.length)] 25)) (w3.alloc (.cells #[(.slice A1 L.length k1), .int .i64 S, .int .i64 C] 32)).heap.size (.slice (some ⟨g4, 0, none⟩) l0.length l0.length) l0) := (HG4.out.get 1 rfl).1
    refine (hI _ l0.length _ HQ0.out.rn (HTAB.out.below HG4.out.bel)).mono ?_
    rintro e w5 ⟨A2, k2, rfl, ho5, hb5⟩
    have HF5 := Lib.hid (HG4.out.push hb5 (rwN (w4.alloc (.cells #[(.slice (some ⟨g4, 0, none⟩) l0.length l0.length)] 25)).heap.size w5.heap.size (.slice A2 L.length k2) L) (Nat.le_refl _) (Nat.le_refl _) ⟨ho5, ho5.lies⟩)
    have HG5 := Lib.hid (HF5.out.push ((Below.refl _ w5).alloc (Nat.le_refl _) (.cells #[(.slice A2 L.length k2), .int .i64 S, .int .i64 C] 32)) (bxPO w5.heap.size (.slice A2 L.length k2) S C) (Nat.le_refl _) (by simp [bxPO]) (PO1.made w5 (.slice A2 L.length k2) S C 32))
    clear HF5
    clear hb5 ho5 HG4 HQ0 x00
    obtain ⟨q0, q1, q2⟩ := HG5.out.get 4 rfl
    obtain ⟨r0, r1, r2⟩ := HG5.out.get 0 rfl
    go_wp2_with fail
    have HM6 : Hid (OwnN (w5.alloc (.cells #[(.slice A2 L.length k2), .int .i64 S, .int .i64 C] 32)) w2.heap.size (.slice A1 L.length k1) L) := (HG5.out.get 5 rfl).1
    have HN6 : Hid (OwnN (w5.alloc (.cells #[(.slice A2 L.length k2), .int .i64 S, .int .i64 C] 32)) (w4.alloc (.cells #[(.slice (some ⟨g4, 0, none⟩) l0.length l0.length)] 25)).heap.size (.slice A2 L.length k2) L) := (HG5.out.get 1 rfl).1
    refine (eqPoolOut_any S C A2 A1 k2 k1 L _ HN6.out.rn HM6.out.rn (by omega)).mono ?_
    rintro e w6 ⟨rfl, hb6⟩
    have HF6 := Lib.hid (HG5.out.below hb6)
    clear hb6 HG5 HM6 HN6 q0 q1 q2 r0 r1 r2
    obtain ⟨x0, _⟩ := HF6.out.get 2 rfl
    obtain ⟨p0, _⟩ := HF6.out.get 6 rfl
    go_wp2_with fail
    have HFd := Lib.hid HF6.out.drew
    have HT7 := Lib.hid (toPool_any a0 c0 l0 w6.drew (HR0.out.below' HFd.out.bel) (by omega))
    go_region_held3 (fun w' => w'.cell? ⟨w4.heap.size, 0, none⟩ = some ((.slice (some ⟨g4, 0, none⟩) l0.length l0.length)) ∧ w'.cell? ⟨(w.heap.size), 0, none⟩ = some (.slice a0 l0.length c0))
      (first
        | go_keep
        | exact hk8
        | exact hk7)
      (first
        | (go_at_call 34; refine (eqPool_any _ _ l0.length l0.length l0 w7 HQ0.out.rn ho7.rn (by omega)).mono ?_; rintro e w8 ⟨rfl, hb8⟩; have HF8 := Lib.hid (HF7.out.below hb8); have hk8 := And.intro (HF8.out.get 2 rfl : (PB1 w8 w4.heap.size (.slice (some ⟨g4, 0, none⟩) l0.length l0.length))).c0 ((HF8.out.get 6 rfl : (PB1 w8 (w.heap.size) (.slice a0 l0.length c0))).c0))
        | (go_at_call 31; refine HT7.out.mono ?_; rintro e w7 ⟨g7, rfl, ho7, hb7⟩; have HF7 := Lib.hid (HFd.out.below hb7); have HQ0 : Hid (OwnN w7 (w3.alloc (.cells #[(.slice A1 L.length k1), .int .i64 S, .int .i64 C] 32)).heap.size (.slice (some ⟨g4, 0, none⟩) l0.length l0.length) l0) := (HF7.out.get 3 rfl).1; have hk7 := And.intro (HF7.out.get 2 rfl : (PB1 w7 w4.heap.size (.slice (some ⟨g4, 0, none⟩) l0.length l0.length))).c0 ((HF7.out.get 6 rfl : (PB1 w7 (w.heap.size) (.slice a0 l0.length c0))).c0)))
    rename_i hheld
    clear hheld hk7 hk8 ho7 hb7 hb8 HT7 HF7 HFd HQ0 HF6 x0 p0
    obtain ⟨x0, _⟩ := HF8.out.get 2 rfl
    go_wp2_with fail
    have HQ0 : Hid (OwnN w8 (w3.alloc (.cells #[(.slice A1 L.length k1), .int .i64 S, .int .i64 C] 32)).heap.size (.slice (some ⟨g4, 0, none⟩) l0.length l0.length) l0) := (HF8.out.get 3 rfl).1
    have HL0 : Hid (Lies (.slice (some ⟨g4, 0, none⟩) l0.length l0.length) (w3.alloc (.cells #[(.slice A1 L.length k1), .int .i64 S, .int .i64 C] 32)).heap.size w4.heap.size) := (HF8.out.get 3 rfl).2
    refine (markPool_any _ l0.length (w3.alloc (.cells #[(.slice A1 L.length k1), .int .i64 S, .int .i64 C] 32)).heap.size (1) l0 _ HQ0.out (by omega) (by omega)).mono ?_
    rintro e w9 ⟨rfl, ho, hg⟩
    have HF9 : Hid (St w [(bxPO w5.heap.size (.slice A2 L.length k2) S C), (rwN (w4.alloc (.cells #[(.slice (some ⟨g4, 0, none⟩) l0.length l0.length)] 25)).heap.size w5.heap.size (.slice A2 L.length k2) L), (bxP w4.heap.size (.slice (some ⟨g4, 0, none⟩) l0.length l0.length)), (rwN (w3.alloc (.cells #[(.slice A1 L.length k1), .int .i64 S, .int .i64 C] 32)).heap.size w4.heap.size (.slice (some ⟨g4, 0, none⟩) l0.length l0.length) (marksN (1) l0.length)), (bxPO w3.heap.size (.slice A1 L.length k1) S C), (rwN w2.heap.size w3.heap.size (.slice A1 L.length k1) L), (bxP (w.heap.size) (.slice a0 l0.length c0))] w9) := HF8.out.turn 3 (rwN (w3.alloc (.cells #[(.slice A1 L.length k1), .int .i64 S, .int .i64 C] 32)).heap.size w4.heap.size (.slice (some ⟨g4, 0, none⟩) l0.length l0.length) (marksN (1) l0.length)) rfl rfl rfl (Only.grown hg HL0.out) ⟨ho, HL0.out⟩
    clear ho hg HQ0 HL0 HF8 x0
    obtain ⟨q0, q1, q2⟩ := HF9.out.get 4 rfl
    obtain ⟨r0, r1, r2⟩ := HF9.out.get 0 rfl
    go_wp2_with fail
    have HM10 : Hid (OwnN w9 w2.heap.size (.slice A1 L.length k1) L) := (HF9.out.get 5 rfl).1
    have HN10 : Hid (OwnN w9 (w4.alloc (.cells #[(.slice (some ⟨g4, 0, none⟩) l0.length l0.length)] 25)).heap.size (.slice A2 L.length k2) L) := (HF9.out.get 1 rfl).1
    refine (eqPoolOut_any S C A2 A1 k2 k1 L _ HN10.out.rn HM10.out.rn (by omega)).mono ?_
    rintro e w10 ⟨rfl, hb10⟩
    have HF10 := Lib.hid (HF9.out.below hb10)
    clear hb10 HF9 HM10 HN10 q0 q1 q2 r0 r1 r2
    obtain ⟨r0, r1, r2⟩ := HF10.out.get 0 rfl
    go_wp2_with fail
    have HN : Hid (OwnN w10 (w4.alloc (.cells #[(.slice (some ⟨g4, 0, none⟩) l0.length l0.length)] 25)).heap.size (.slice A2 L.length k2) L) := (HF10.out.get 1 rfl).1
    have HLg : Hid (Lies (.slice A2 L.length k2) (w4.alloc (.cells #[(.slice (some ⟨g4, 0, none⟩) l0.length l0.length)] 25)).heap.size w5.heap.size) := (HF10.out.get 1 rfl).2
    refine (markPoolOut_any S C A2 k2 (w4.alloc (.cells #[(.slice (some ⟨g4, 0, none⟩) l0.length l0.length)] 25)).heap.size 1 L _ HN.out (by omega) (by omega)).mono ?_
    rintro e w11 ⟨rfl, ho, hg⟩
    have HF11 : Hid (St w [(bxPO w5.heap.size (.slice A2 L.length k2) S C), (rwN (w4.alloc (.cells #[(.slice (some ⟨g4, 0, none⟩) l0.length l0.length)] 25)).heap.size w5.heap.size (.slice A2 L.length k2) (marksN 1 L.length)), (bxP w4.heap.size (.slice (some ⟨g4, 0, none⟩) l0.length l0.length)), (rwN (w3.alloc (.cells #[(.slice A1 L.length k1), .int .i64 S, .int .i64 C] 32)).heap.size w4.heap.size (.slice (some ⟨g4, 0, none⟩) l0.length l0.length) (marksN (1) l0.length)), (bxPO w3.heap.size (.slice A1 L.length k1) S C), (rwN w2.heap.size w3.heap.size (.slice A1 L.length k1) L), (bxP (w.heap.size) (.slice a0 l0.length c0))] w11) := HF10.out.turn 1 (rwN (w4.alloc (.cells #[(.slice (some ⟨g4, 0, none⟩) l0.length l0.length)] 25)).heap.size w5.heap.size (.slice A2 L.length k2) (marksN 1 L.length)) rfl rfl rfl (Only.grown hg HLg.out) ⟨ho, HLg.out⟩
    clear ho hg HN HLg HF10 r0 r1 r2
    obtain ⟨r0, r1, r2⟩ := HF11.out.get 0 rfl
    go_wp2_with fail
    have HN : Hid (OwnN w11 (w4.alloc (.cells #[(.slice (some ⟨g4, 0, none⟩) l0.length l0.length)] 25)).heap.size (.slice A2 L.length k2) (marksN 1 L.length)) := (HF11.out.get 1 rfl).1
    refine (heldPoolOut_any S C A2 k2 1 L.length _ HN.out.rn (by omega) (by omega)).mono ?_
    rintro e w12 ⟨rfl, hb12⟩
    have HF12 := Lib.hid (HF11.out.below hb12)
    clear hb12 HN HF11 r0 r1 r2
    obtain ⟨p0, _⟩ := HF12.out.get 6 rfl
    go_wp2_with fail
    refine (toPool_any a0 c0 l0 _ (HR0.out.below' HF12.out.bel) (by omega)).mono ?_
    rintro e w13 ⟨g13, rfl, ho13, hb13⟩
    have HF13 := Lib.hid (HF12.out.below hb13)
    have HO13_0 := Lib.hid ho13
    clear hb13 ho13 HF12 p0
    go_wp2_with fail
    refine (hI _ l0.length w13 HO13_0.out.rn (HTAB.out.below HF13.out.bel)).mono ?_
    rintro e w14 ⟨A3, k3, rfl, ho14, hb14⟩
    have HF14 := Lib.hid (HF13.out.below hb14)
    have HOr14 := Lib.hid ho14
    have HG14 := Lib.hid (HF14.out.below ((Below.refl _ w14).alloc (Nat.le_refl _) (.cells #[(.slice A3 L.length k3), .int .i64 S, .int .i64 C] 32)))
    have HOs14 := Lib.hid (HOr14.out.alloc (.cells #[(.slice A3 L.length k3), .int .i64 S, .int .i64 C] 32))
    clear HF14 HOr14
    clear hb14 ho14 HF13 HO13_0
    obtain ⟨q0, q1, q2⟩ := HG14.out.get 4 rfl
    go_wp2_with fail
    have HM15 : Hid (OwnN (w14.alloc (.cells #[(.slice A3 L.length k3), .int .i64 S, .int .i64 C] 32)) w2.heap.size (.slice A1 L.length k1) L) := (HG14.out.get 5 rfl).1
    refine (eqPoolOut_any S C A3 A1 k3 k1 L _ HOs14.out.rn HM15.out.rn (by omega)).mono ?_
    rintro e w15 ⟨rfl, hb15⟩
    have HF15 := Lib.hid (HG14.out.below hb15)
    clear hb15 HG14 HM15 HOs14 q0 q1 q2
    obtain ⟨r0, r1, r2⟩ := HF15.out.get 0 rfl
    go_wp2_with fail
    have HN : Hid (OwnN w15 (w4.alloc (.cells #[(.slice (some ⟨g4, 0, none⟩) l0.length l0.length)] 25)).heap.size (.slice A2 L.length k2) (marksN 1 L.length)) := (HF15.out.get 1 rfl).1
    refine (heldPoolOut_any S C A2 k2 1 L.length _ HN.out.rn (by omega) (by omega)).mono ?_
    rintro e w16 ⟨rfl, hb16⟩
    have HF16 := Lib.hid (HF15.out.below hb16)
    clear hb16 HN HF15 r0 r1 r2
    go_wp2
    go_ret
    exact ⟨rfl, HF16.out.bel⟩
  · rw [if_neg hl0] at hsz0
    go_enter Tryd.func5, Tryd.ntmps5
    go_wp2_with fail
    refine (hsz0 _).mono ?_
    rintro e w1 ⟨rfl, hb1⟩
    have HF1 := Lib.hid (HF0.out.below hb1)
    clear hb1 HF0 
    go_wp2
    go_ret
    exact ⟨rfl, HF1.out.bel⟩

set_option maxRecDepth 100000 in
theorem lifted (os : Os) (started : os.Started) (H : Type) (enc : TypeId × Value → H) :
    ReturnsInHanded {} Tryd.checked os 5 .any (fun w args => (Rows.fnExactNodeTurnSpec.pre enc Tryd.prog Tryd.f5 [] false w args ∧ laidMetH Tryd.prog Rows.fnExactNodeTurnRow.laid w) ∧ sizedMet enc Tryd.prog Tryd.f5 (OpenSpec.ofChange Rows.fnExactNodeTurnSpec) false w args)
      (Rows.fnExactNodeTurnSpec.post enc Tryd.prog Tryd.f5 false true false false) := by
  refine returnsInHanded_of_change_and (C := Tryd.checked) (X := fun w _ => laidMetH Tryd.prog Rows.fnExactNodeTurnRow.laid w) (fun _ _ _ hh h => h.of_heap hh) own started (by kernel_rfl) Tryd.func5
    (ChangeSpec.witness_shaped (enc := enc) (C := Tryd.checked) (os := os) (X := fun w _ => laidMetH Tryd.prog Rows.fnExactNodeTurnRow.laid w) false (World.doorLaid Tryd.prog 400 os) #[.agg #[.slice none 0 0], .int .i64 0, .int .i64 0, .int .i64 0] 8 rfl (World.shaped_of_RefB (by kernel_rfl) (by kernel_rfl)) (by kernel_rfl) (by kernel_rfl) (by kernel_rfl) (door_met os _)) ?_
  intro W base args ds gs before hval0 hW _ _ hL _
  have hval : ∀ (j : Nat) t v, Tryd.f5.params[j]? = some t → args[j]? = some v → Value.okWide Tryd.prog W .any base t v := hval0
  have hW' := hW
  obtain ⟨p, q, hA0, hV, rfl, hfz, hnd⟩ := hW
  have hA : DataW.TrodAll enc Tryd.prog W 0 (fun _ => true) true Tryd.f5.params.toList args.toList ds p := hA0
  rw [Tryd.params5] at hA hval
  obtain ⟨v0, vs0, d0, ds0, p0, q0, hargs, rfl, rfl, h0, r0⟩ := trodAll_cons hA
  obtain ⟨v1, vs1, d1, ds1, p1, q1, rfl, rfl, rfl, h1, r1⟩ := trodAll_cons r0
  obtain ⟨v2, vs2, d2, ds2, p2, q2, rfl, rfl, rfl, h2, r2⟩ := trodAll_cons r1
  obtain ⟨v3, vs3, d3, ds3, p3, q3, rfl, rfl, rfl, h3, r3⟩ := trodAll_cons r2
  obtain ⟨rfl, rfl, rfl⟩ := trodAll_nil r3
  obtain rfl : args = #[v0, v1, v2, v3] := by cases args; simp_all
  obtain ⟨rfl, rfl⟩ := trodVars_none hV
  have k0 := h0
  have lt0 : ∀ x ∈ p0, x.block < W.heap.size := by obtain ⟨m, hm⟩ := k0; exact DataW.trod_lt m _ _ _ hm
  obtain ⟨a0, cap0, z0, rfl, w0⟩ := open_pool (hval 0 55 v0 rfl rfl) h0
  obtain ⟨a1, rfl, rfl, rfl, w1⟩ := open_int Tryd.underlying2 (hval 1 2 v1 rfl rfl) h1
  obtain ⟨a2, rfl, rfl, rfl, w2⟩ := open_int Tryd.underlying2 (hval 2 2 v2 rfl rfl) h2
  obtain ⟨a3, rfl, rfl, rfl, w3⟩ := open_int Tryd.underlying2 (hval 3 2 v3 rfl rfl) h3
  clear hA0 hval0
  refine (walk a0 cap0 z0 a1 a2 a3 W w0 w1 w2 w3 (has_of_laid hL)).mono fun e W' ⟨he, bel⟩ => ?_
  subst he
  exact ⟨_, rfl, _, _, _, [], _, [], hW', trodAll_mk1 (shut_bool Tryd.underlying4 _), (trodAll_cons_mk (Below.trod laidOut (by kernel_rfl) (of_decide_eq_true (by kernel_rfl)) k0 bel lt0) (trodAll_cons_mk (shut_int Tryd.underlying2 w1) (trodAll_cons_mk (shut_int Tryd.underlying2 w2) (trodAll_cons_mk (shut_int Tryd.underlying2 w3) trodAll_mk0)))), rfl, bel.frame _, fun h => by cases h⟩

theorem over : Rows.FnExactNodeTurnSaid :=
  OpenClaim.holds_of_wide 5 Tryd.f5 rfl rfl rfl rfl rfl rfl rfl ⟨rfl, rfl, rfl, rfl, rfl⟩ rfl rfl rfl rfl rfl (by kernel_rfl) Tryd.func5 (by kernel_rfl)
    (of_decide_eq_true (by kernel_rfl)) (by unfold Func.isWrapper; first | (rw [if_pos (by decide +kernel)]; kernel_rfl) | (rw [if_neg (by decide +kernel)]; exact ⟨rfl, rfl⟩))
    (fun os started H enc _ => lifted os started H enc)

theorem plain (f : FuncId) (fn : Func) (hf : Tryd.pinned.checked.prog.funcNamed "loop.example/g00635/laws.FnExactNodeTurn" = some f) (hfn : Tryd.pinned.checked.prog.funcs[f]? = some fn) :
    false = Tryd.pinned.checked.prog.looks [] ∧ ∀ (j : Nat) t, fn.params[j]? = some t → Tryd.pinned.checked.prog.wantsStandIn t = false := by
  obtain rfl : f = 5 := Option.some.inj ((show Tryd.prog.funcNamed "loop.example/g00635/laws.FnExactNodeTurn" = some 5 by kernel_rfl).symm.trans hf) |>.symm
  obtain rfl : fn = Tryd.f5 := (Option.some.inj (Tryd.func5.symm.trans hfn)).symm
  refine ⟨by kernel_rfl, fun j t ht => ?_⟩
  rw [Tryd.params5] at ht
  have hm := Array.mem_of_getElem? ht
  simp only [List.mem_toArray, List.mem_cons, List.not_mem_nil, or_false] at hm
  rcases hm with rfl | rfl | rfl | rfl
  · exact (show Tryd.prog.wantsStandIn 55 = false by kernel_rfl)
  · exact (show Tryd.prog.wantsStandIn 2 = false by kernel_rfl)
  · exact (show Tryd.prog.wantsStandIn 2 = false by kernel_rfl)
  · exact (show Tryd.prog.wantsStandIn 2 = false by kernel_rfl)

end Go.Proofs.YtoobkajilbmdhaaDoor.fnExactNodeTurn
namespace Go.Proofs.YtoobkajilbmdhaaDoor
/-- The card. -/
theorem fnExactNodeTurn_holds : Rows.FnExactNodeTurnCardSaid :=
  Claim7.holds_tied_plain_at .later [] _ _ _ _ fnExactNodeTurn.over (fun _ h => by cases h) (by kernel_rfl) (fun _ h => by cases h) fnExactNodeTurn_row_tie rfl ⟨rfl, rfl⟩ (by kernel_rfl) rfl fnExactNodeTurn.plain (by kernel_rfl)
end Go.Proofs.YtoobkajilbmdhaaDoor
