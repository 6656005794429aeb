/- FnExactWayOf: for every input the law returns true, and its arguments read as before. No condition beyond the row's own. -/
import Derived.Test.YtmjbefjkkncjlaaRows
import Derived.WalkKit
import Derived.ProofKit
import Derived.OpenShut
import Derived.ShutString
import Derived.ChangeOld
import Derived.Below
import Derived.WalkSpells
import Derived.WalkLawsBesides
import Derived.Lib.Hide
import Derived.Test.YtmjbefjkkncjlaaWyAbm
import Derived.Test.YtmjbefjkkncjlaaWyX
namespace Go.Proofs.Ytmjbefjkkncjlaa.fnExactWayOf
open Go.ChangeShapes Go.WideShapes Go.ChangeAt Go.RowKit
open Go.ChangeMaps (open_string shut_string)
set_option linter.unusedVariables false

theorem own : ownKnob Try.prog.godebug = none := by kernel_rfl
theorem laidOut : laidOutB Try.prog = true := by kernel_rfl

set_option maxRecDepth 100000 in
set_option maxHeartbeats 4000000 in
theorem walk (s0 : Int) (a0 : Option Addr) (c0 : Nat) (l0 : List Int) (X1 Y1 : Int) (X2 Y2 : Int) (w : World) (h0 : InGrid w s0 a0 l0) (h1 : ((Lit.int .i64 X1).wf = true ∧ (Lit.int .i64 Y1).wf = true)) (h2 : ((Lit.int .i64 X2).wf = true ∧ (Lit.int .i64 Y2).wf = true)) :
    Calls Try.prog 4 #[.agg #[.int .i64 s0, .slice a0 l0.length c0], .agg #[.int .i64 X1, .int .i64 Y1], .agg #[.int .i64 X2, .int .i64 Y2]] w fun e w' => e = .returned (.bool true) ∧ Below w.heap.size w w' := by
  have HR0 := Lib.hid h0.2.1
  have hlm0 := h0.2.2.1
  have HS0 := Lib.hid h0.nums
  have HS1 := Lib.hid (And.intro (bounds_i64 h1.1) (bounds_i64 h1.2))
  have HS2 := Lib.hid (And.intro (bounds_i64 h2.1) (bounds_i64 h2.2))
  unfold maxLen at hlm0
  clear h0 h1 h2
  have HF0 : Hid (St w [(bxL (w.heap.size + 1 + 1) X2 Y2), (bxL (w.heap.size + 1) X1 Y1), (bxG (w.heap.size) s0 (.slice a0 l0.length c0))] (((w.alloc (.cells #[.int .i64 s0, .slice a0 l0.length c0] 42)).alloc (.cells #[.int .i64 X1, .int .i64 Y1] 43)).alloc (.cells #[.int .i64 X2, .int .i64 Y2] 43))) := by
    have := ((((St.start w).push ((Below.refl _ w).alloc (Nat.le_refl _) (.cells #[.int .i64 s0, .slice a0 l0.length c0] 42)) (bxG w.heap.size s0 (.slice a0 l0.length c0)) (Nat.le_refl _) (by simp [bxG]) (GB.made w s0 (.slice a0 l0.length c0) 42)).push ((Below.refl _ (w.alloc (.cells #[.int .i64 s0, .slice a0 l0.length c0] 42))).alloc (Nat.le_refl _) (.cells #[.int .i64 X1, .int .i64 Y1] 43)) (bxL (w.alloc (.cells #[.int .i64 s0, .slice a0 l0.length c0] 42)).heap.size X1 Y1) (Nat.le_refl _) (by simp [bxL]) (PlB.made (w.alloc (.cells #[.int .i64 s0, .slice a0 l0.length c0] 42)) X1 Y1 43)).push ((Below.refl _ ((w.alloc (.cells #[.int .i64 s0, .slice a0 l0.length c0] 42)).alloc (.cells #[.int .i64 X1, .int .i64 Y1] 43))).alloc (Nat.le_refl _) (.cells #[.int .i64 X2, .int .i64 Y2] 43)) (bxL ((w.alloc (.cells #[.int .i64 s0, .slice a0 l0.length c0] 42)).alloc (.cells #[.int .i64 X1, .int .i64 Y1] 43)).heap.size X2 Y2) (Nat.le_refl _) (by simp [bxL]) (PlB.made ((w.alloc (.cells #[.int .i64 s0, .slice a0 l0.length c0] 42)).alloc (.cells #[.int .i64 X1, .int .i64 Y1] 43)) X2 Y2 43))
    simp only [alloc_size] at this
    exact this
  have hsz0 := fun w => szGrid_any s0 (1048576) a0 l0.length c0 w (by omega) (by decide) (by decide)
  by_cases hl0 : (l0.length : Int) ≤ 1048576
  · rw [if_pos hl0] at hsz0
    have hleft1 : (0 : Int) ≤ 1048576 - l0.length := by omega
    obtain ⟨d0, hd0⟩ := gdist_any s0 l0 X1 Y1
    obtain ⟨L0, hL0⟩ := wayto_any s0 l0 X1 Y1 X2 Y2 d0 hd0
    have hM := fun A0 c0' w h0 => mWayOf_any s0 X1 Y1 X2 Y2 A0 c0' l0 d0 L0 w h0 (by omega) hd0 hL0
    have hI := fun A0 c0' w h0 => pWayOf_any s0 X1 Y1 X2 Y2 A0 c0' l0 d0 L0 w h0 (by omega) HS1.out.1 HS1.out.2 HS2.out.1 HS2.out.2 hd0 hL0
    have hlen := wayOut_small hd0 hL0
    generalize wayOut s0 l0 X1 Y1 X2 Y2 d0 L0 = RES at *
    obtain ⟨C, S, L⟩ := RES
    unfold WOut at hM hI
    simp only at hM hI hlen
    clear hd0 hL0
    go_enter Try.func4, Try.ntmps4
    go_wp2_with fail
    refine (hsz0 _).mono ?_
    rintro e w1 ⟨rfl, hb1⟩
    have HF1 := Lib.hid (HF0.out.below hb1)
    clear hb1 HF0 
    clear hsz0
    have HPAR : Hid (∀ wr, Below w1.heap.size w1 wr → wr.cell? ⟨(w.heap.size), 0, none⟩ = some (.int .i64 s0) ∧ wr.cell? ⟨(w.heap.size), 1, none⟩ = some (.slice a0 l0.length c0) ∧ wr.cell? ⟨(w.heap.size + 1), 0, none⟩ = some (.int .i64 X1) ∧ wr.cell? ⟨(w.heap.size + 1), 1, none⟩ = some (.int .i64 Y1) ∧ wr.cell? ⟨(w.heap.size + 1 + 1), 0, none⟩ = some (.int .i64 X2) ∧ wr.cell? ⟨(w.heap.size + 1 + 1), 1, none⟩ = some (.int .i64 Y2)) := by
      intro wr hb
      have hs := HF1.out.below hb
      exact ⟨(hs.get 2 rfl : (GB wr (w.heap.size) s0 (.slice a0 l0.length c0))).c0, (hs.get 2 rfl : (GB wr (w.heap.size) s0 (.slice a0 l0.length c0))).c1, (hs.get 1 rfl : (PlB wr (w.heap.size + 1) X1 Y1)).c0, (hs.get 1 rfl : (PlB wr (w.heap.size + 1) X1 Y1)).c1, (hs.get 0 rfl : (PlB wr (w.heap.size + 1 + 1) X2 Y2)).c0, (hs.get 0 rfl : (PlB wr (w.heap.size + 1 + 1) X2 Y2)).c1⟩
    have HTO0 : Hid (∀ wr, Below w1.heap.size w1 wr → Calls Try.prog 18 #[.agg #[.int .i64 s0, .slice a0 l0.length c0]] wr (ToGridPost wr s0 l0)) := fun wr hb => toGrid_any s0 a0 c0 l0 wr (HR0.out.below' (HF1.out.below hb).bel) (by omega)
    obtain ⟨p00, p01, _, _⟩ := HF1.out.get 2 rfl
    obtain ⟨p10, p11⟩ := HF1.out.get 1 rfl
    obtain ⟨p20, p21⟩ := HF1.out.get 0 rfl
    try go_wp2_with fail
    go_cut [8] from 20 to 26 (fun c wx => ∃ (q1 : Nat) (A1 : Option Addr) (k1 : Nat), c = .pointer (some ⟨q1, 0, none⟩) ∧ St w [(itW w1.heap.size wx.heap.size q1 S C (.slice A1 L.length k1) L), (bxL (w.heap.size + 1 + 1) X2 Y2), (bxL (w.heap.size + 1) X1 Y1), (bxG (w.heap.size) s0 (.slice a0 l0.length c0))] wx)
    case first =>
      clear p00 p01 p10 p11 p20 p21
      have hB := (Below.refl w1.heap.size w1).drew
      have hZ := (ZW.made (Below.refl w1.heap.size w1)).drew
      have hk := HPAR.out _ hB
      go_region_held3 (fun w' => w'.cell? ⟨(w.heap.size), 0, none⟩ = some (.int .i64 s0) ∧ w'.cell? ⟨(w.heap.size), 1, none⟩ = some (.slice a0 l0.length c0) ∧ w'.cell? ⟨(w.heap.size + 1), 0, none⟩ = some (.int .i64 X1) ∧ w'.cell? ⟨(w.heap.size + 1), 1, none⟩ = some (.int .i64 Y1) ∧ w'.cell? ⟨(w.heap.size + 1 + 1), 0, none⟩ = some (.int .i64 X2) ∧ w'.cell? ⟨(w.heap.size + 1 + 1), 1, none⟩ = some (.int .i64 Y2))
        (first
          | (with_reducible exact hk)
          | exact HPAR.out _ hZ.bel
          | exact HPAR.out _ (ZW.made B0).bel
          | exact HPAR.out _ (ZW.made B1).bel
          | exact HPAR.out _ (ZW.made B2).bel
          | exact HPAR.out _ (Br.alloc Br.size _)
          | exact HPAR.out _ (Zr.fill_bel _ _ _))
        (first
          | (go_at_call 7; have _c := B2; clear _c; refine (hM _ l0.length v2 (o2_0).ri).mono ?_; rintro e vr ⟨A1, k1, rfl, hoT, hb⟩; have y1 := B2.size; have y2 := hb.size; have Br := B2.trans (hb.mono B2.size); have hk := HPAR.out _ Br; clear hb)
          | (go_at_call 7; have _c := Z2; clear _c; refine (hM _ l0.length v2 (o2_0).ri).mono ?_; rintro e vr ⟨A1, k1, rfl, hoT, hb⟩; have qz := Z2.hq.2; have hWz := Z2.bel.size; have Zr := Z2.below hb; have hk := HPAR.out _ Zr.bel; obtain ⟨s0, s1, s2, t0, t1, t2⟩ := Zr.m; have hzr := Zr.hq.2; clear hb)
          | (go_at_call 7; have _c := B2; clear _c; refine (hM _ l0.length _ (o2_0.alloc _).ri).mono ?_; rintro e vr ⟨A1, k1, rfl, hoT, hb⟩; have qz := (ZW.made B2).hq.2; have hWz := (ZW.made B2).bel.size; have Zr := (ZW.made B2).below hb; have hk := HPAR.out _ Zr.bel; obtain ⟨s0, s1, s2, t0, t1, t2⟩ := Zr.m; have hzr := Zr.hq.2; clear hb)
          | (have _c := B1; clear _c; go_at_call 19; refine (toPl_v X2 Y2 v1).mono ?_; rintro e v2 ⟨rfl, hb⟩; have B2 := B1.trans (hb.mono B1.size); have hk := HPAR.out _ B2; have o2_0 := (o1_0).keep hb; clear hb)
          | (have _c := Z1; clear _c; go_at_call 19; refine (toPl_v X2 Y2 v1).mono ?_; rintro e v2 ⟨rfl, hb⟩; have Z2 := Z1.below hb; have hk := HPAR.out _ Z2.bel; have o2_0 := (o1_0).keep hb; clear hb)
          | (have _c := B1; clear _c; go_at_call 19; refine (toPl_v X2 Y2 _).mono ?_; rintro e v2 ⟨rfl, hb⟩; have Z2 := (ZW.made B1).below hb; have hk := HPAR.out _ Z2.bel; have o2_0 := (o1_0.alloc _).keep hb; clear hb)
          | (have _c := B0; clear _c; go_at_call 19; refine (toPl_v X1 Y1 v0).mono ?_; rintro e v1 ⟨rfl, hb⟩; have B1 := B0.trans (hb.mono B0.size); have hk := HPAR.out _ B1; have o1_0 := (o0_0).keep hb; clear hb)
          | (have _c := Z0; clear _c; go_at_call 19; refine (toPl_v X1 Y1 v0).mono ?_; rintro e v1 ⟨rfl, hb⟩; have Z1 := Z0.below hb; have hk := HPAR.out _ Z1.bel; have o1_0 := (o0_0).keep hb; clear hb)
          | (have _c := B0; clear _c; go_at_call 19; refine (toPl_v X1 Y1 _).mono ?_; rintro e v1 ⟨rfl, hb⟩; have Z1 := (ZW.made B0).below hb; have hk := HPAR.out _ Z1.bel; have o1_0 := (o0_0.alloc _).keep hb; clear hb)
          | (go_at_call 18; refine (HTO0.out _ (by with_reducible exact hB)).mono ?_; rintro e v0 ⟨gv0, rfl, ho, hb⟩; have B0 := hB.trans (hb.mono hB.size); have hk := HPAR.out _ B0; have o0_0 := ho; clear ho hb)
          | (go_at_call 18; refine (HTO0.out _ (by with_reducible exact hZ.bel)).mono ?_; rintro e v0 ⟨gv0, rfl, ho, hb⟩; have Z0 := hZ.below hb; have hk := HPAR.out _ Z0.bel; have o0_0 := ho; clear ho hb))
      all_goals
        clear hk
        go_wp2_with fail
        go_meet
        first
          | exact ⟨_, A1, k1, rfl, HF1.out.push (Br.alloc Br.size _) (itW w1.heap.size _ _ S C (.slice A1 L.length k1) L) (Nat.le_refl _) (Nat.le_refl _) (WA.new hoT y1 y2)⟩
          | exact ⟨_, A1, k1, rfl, HF1.out.push (Zr.fill_bel S C _) (itW w1.heap.size _ _ S C (.slice A1 L.length k1) L) (Nat.le_refl _) (Nat.le_refl _) (ZW.fill Zr qz hWz hoT)⟩
    case rest =>
      obtain ⟨q1, A1, k1, rfl, hst⟩ := hcut
      rename_i hcutu1
      have HF2 := Lib.hid hst
      generalize wc = w2 at *
      clear hst HPAR HTO0 p00 p01 p10 p11 p20 p21 HF1
      obtain ⟨p0, p1, _, _⟩ := HF2.out.get 3 rfl
      go_wp2_with fail
      refine (toGrid_any s0 a0 c0 l0 _ (HR0.out.below' HF2.out.bel) (by omega)).mono ?_
      rintro e w3 ⟨g3, rfl, ho3, hb3⟩
      have HF3 := Lib.hid (HF2.out.push hb3 (rwI w2.heap.size w3.heap.size (.slice (some ⟨g3, 0, none⟩) l0.length l0.length) l0) (Nat.le_refl _) (Nat.le_refl _) ⟨ho3, ho3.lies⟩)
      have HG3 := Lib.hid (HF3.out.push ((Below.refl _ w3).alloc (Nat.le_refl _) (.cells #[.int .i64 s0, (.slice (some ⟨g3, 0, none⟩) l0.length l0.length)] 25)) (bxG w3.heap.size s0 (.slice (some ⟨g3, 0, none⟩) l0.length l0.length)) (Nat.le_refl _) (by simp [bxG]) (GB.made w3 s0 (.slice (some ⟨g3, 0, none⟩) l0.length l0.length) 25))
      clear HF3
      clear hb3 ho3 HF2 p0 p1
      go_wp2_with fail
      generalize (w3.alloc (.cells #[.int .i64 s0, (.slice (some ⟨g3, 0, none⟩) l0.length l0.length)] 25)) = wg at *
      generalize w3.heap.size = xg at *
      have HPAR : Hid (∀ wr, Below wg.heap.size wg wr → wr.cell? ⟨xg, 0, none⟩ = some (.int .i64 s0) ∧ wr.cell? ⟨xg, 1, none⟩ = some ((.slice (some ⟨g3, 0, none⟩) l0.length l0.length)) ∧ wr.cell? ⟨(w.heap.size + 1), 0, none⟩ = some (.int .i64 X1) ∧ wr.cell? ⟨(w.heap.size + 1), 1, none⟩ = some (.int .i64 Y1) ∧ wr.cell? ⟨(w.heap.size + 1 + 1), 0, none⟩ = some (.int .i64 X2) ∧ wr.cell? ⟨(w.heap.size + 1 + 1), 1, none⟩ = some (.int .i64 Y2)) := by
        intro wr hb
        have hs := HG3.out.below hb
        exact ⟨(hs.get 0 rfl : (GB wr xg s0 (.slice (some ⟨g3, 0, none⟩) l0.length l0.length))).c0, (hs.get 0 rfl : (GB wr xg s0 (.slice (some ⟨g3, 0, none⟩) l0.length l0.length))).c1, (hs.get 4 rfl : (PlB wr (w.heap.size + 1) X1 Y1)).c0, (hs.get 4 rfl : (PlB wr (w.heap.size + 1) X1 Y1)).c1, (hs.get 3 rfl : (PlB wr (w.heap.size + 1 + 1) X2 Y2)).c0, (hs.get 3 rfl : (PlB wr (w.heap.size + 1 + 1) X2 Y2)).c1⟩
      have HQR0 : Hid (∀ wr, Below wg.heap.size wg wr → OwnI 2 .i64 wr w2.heap.size (.slice (some ⟨g3, 0, none⟩) l0.length l0.length) l0) := fun wr hb => ((HG3.out.below hb).get 1 rfl).1
      obtain ⟨x00, x01, _, _⟩ := HG3.out.get 0 rfl
      obtain ⟨p10, p11⟩ := HG3.out.get 4 rfl
      obtain ⟨p20, p21⟩ := HG3.out.get 3 rfl
      try go_wp2_with fail
      go_cut [10] from 29 to 34 (fun c wx => ∃ (q2 : Nat) (A2 : Option Addr) (k2 : Nat), c = .pointer (some ⟨q2, 0, none⟩) ∧ St w [(itW wg.heap.size wx.heap.size q2 S C (.slice A2 L.length k2) L), (bxG xg s0 (.slice (some ⟨g3, 0, none⟩) l0.length l0.length)), (rwI w2.heap.size xg (.slice (some ⟨g3, 0, none⟩) l0.length l0.length) l0), (itW w1.heap.size w2.heap.size q1 S C (.slice A1 L.length k1) L), (bxL (w.heap.size + 1 + 1) X2 Y2), (bxL (w.heap.size + 1) X1 Y1), (bxG (w.heap.size) s0 (.slice a0 l0.length c0))] wx)
      case first =>
        clear x00 x01 p10 p11 p20 p21
        have hB := (Below.refl wg.heap.size wg).drew
        have hZ := (ZW.made (Below.refl wg.heap.size wg)).drew
        have hk := HPAR.out _ hB
        go_region_held3 (fun w' => w'.cell? ⟨xg, 0, none⟩ = some (.int .i64 s0) ∧ w'.cell? ⟨xg, 1, none⟩ = some ((.slice (some ⟨g3, 0, none⟩) l0.length l0.length)) ∧ w'.cell? ⟨(w.heap.size + 1), 0, none⟩ = some (.int .i64 X1) ∧ w'.cell? ⟨(w.heap.size + 1), 1, none⟩ = some (.int .i64 Y1) ∧ w'.cell? ⟨(w.heap.size + 1 + 1), 0, none⟩ = some (.int .i64 X2) ∧ w'.cell? ⟨(w.heap.size + 1 + 1), 1, none⟩ = some (.int .i64 Y2))
          (first
            | (with_reducible exact hk)
            | exact HPAR.out _ hZ.bel
            | exact HPAR.out _ (ZW.made B0).bel
            | exact HPAR.out _ (ZW.made B1).bel
            | exact HPAR.out _ (Br.alloc Br.size _)
            | exact HPAR.out _ (Zr.fill_bel _ _ _))
          (first
            | (go_at_call 6; have _c := B1; clear _c; refine (hI _ l0.length v1 (HQR0.out _ B1).ri).mono ?_; rintro e vr ⟨A2, k2, rfl, hoT, hb⟩; have y1 := B1.size; have y2 := hb.size; have Br := B1.trans (hb.mono B1.size); have hk := HPAR.out _ Br; clear hb)
            | (go_at_call 6; have _c := Z1; clear _c; refine (hI _ l0.length v1 (HQR0.out _ Z1.bel).ri).mono ?_; rintro e vr ⟨A2, k2, rfl, hoT, hb⟩; have qz := Z1.hq.2; have hWz := Z1.bel.size; have Zr := Z1.below hb; have hk := HPAR.out _ Zr.bel; obtain ⟨s0, s1, s2, t0, t1, t2⟩ := Zr.m; have hzr := Zr.hq.2; clear hb)
            | (go_at_call 6; have _c := B1; clear _c; refine (hI _ l0.length _ (HQR0.out _ (ZW.made B1).bel).ri).mono ?_; rintro e vr ⟨A2, k2, rfl, hoT, hb⟩; have qz := (ZW.made B1).hq.2; have hWz := (ZW.made B1).bel.size; have Zr := (ZW.made B1).below hb; have hk := HPAR.out _ Zr.bel; obtain ⟨s0, s1, s2, t0, t1, t2⟩ := Zr.m; have hzr := Zr.hq.2; clear hb)
            | (have _c := B0; clear _c; go_at_call 19; refine (toPl_v X2 Y2 v0).mono ?_; rintro e v1 ⟨rfl, hb⟩; have B1 := B0.trans (hb.mono B0.size); have hk := HPAR.out _ B1; clear hb)
            | (have _c := Z0; clear _c; go_at_call 19; refine (toPl_v X2 Y2 v0).mono ?_; rintro e v1 ⟨rfl, hb⟩; have Z1 := Z0.below hb; have hk := HPAR.out _ Z1.bel; clear hb)
            | (have _c := B0; clear _c; go_at_call 19; refine (toPl_v X2 Y2 _).mono ?_; rintro e v1 ⟨rfl, hb⟩; have Z1 := (ZW.made B0).below hb; have hk := HPAR.out _ Z1.bel; clear hb)
            | (go_at_call 19; refine (toPl_v X1 Y1 _).mono ?_; rintro e v0 ⟨rfl, hb⟩; have B0 := hB.trans (hb.mono hB.size); have hk := HPAR.out _ B0; clear hb)
            | (go_at_call 19; refine (toPl_v X1 Y1 _).mono ?_; rintro e v0 ⟨rfl, hb⟩; have Z0 := hZ.below hb; have hk := HPAR.out _ Z0.bel; clear hb))
        all_goals
          clear hk
          go_wp2_with fail
          go_meet
          first
            | exact ⟨_, A2, k2, rfl, HG3.out.push (Br.alloc Br.size _) (itW wg.heap.size _ _ S C (.slice A2 L.length k2) L) (Nat.le_refl _) (Nat.le_refl _) (WA.new hoT y1 y2)⟩
            | exact ⟨_, A2, k2, rfl, HG3.out.push (Zr.fill_bel S C _) (itW wg.heap.size _ _ S C (.slice A2 L.length k2) L) (Nat.le_refl _) (Nat.le_refl _) (ZW.fill Zr qz hWz hoT)⟩
      case rest =>
        obtain ⟨q2, A2, k2, rfl, hst⟩ := hcut
        rename_i hcutu2
        have HF4 := Lib.hid hst
        generalize wc = w4 at *
        clear hst HPAR HQR0 x00 x01 p10 p11 p20 p21 HG3
        have HMm : Hid (WA w4 w1.heap.size w2.heap.size q1 S C (.slice A1 L.length k1) L) := HF4.out.get 3 rfl
        have HMg : Hid (WA w4 wg.heap.size w4.heap.size q2 S C (.slice A2 L.length k2) L) := HF4.out.get 0 rfl
        obtain ⟨q0, q1, q2, _, _, _⟩ := HMm.out.m
        obtain ⟨r0, r1, r2, _, _, _⟩ := HMg.out.m
        go_wp2_with fail
        refine (eqWayOut_any S C A2 A1 k2 k1 L _ HMg.out.oT.r HMm.out.oT.r (by omega)).mono ?_
        rintro e w5 ⟨rfl, hb5⟩
        have HF5 := Lib.hid (HF4.out.below hb5)
        clear hb5 HF4 HMm HMg q0 q1 q2 r0 r1 r2
        obtain ⟨x0, x1, _, _⟩ := HF5.out.get 1 rfl
        obtain ⟨p0, p1, _, _⟩ := HF5.out.get 6 rfl
        go_wp2_with fail
        have HFd := Lib.hid HF5.out.drew
        have HT6 := Lib.hid (toGrid_any s0 a0 c0 l0 w5.drew (HR0.out.below' HFd.out.bel) (by omega))
        go_region_held3 (fun w' => w'.cell? ⟨xg, 0, none⟩ = some (.int .i64 s0) ∧ w'.cell? ⟨xg, 1, none⟩ = some ((.slice (some ⟨g3, 0, none⟩) l0.length l0.length)) ∧ w'.cell? ⟨(w.heap.size), 0, none⟩ = some (.int .i64 s0) ∧ w'.cell? ⟨(w.heap.size), 1, none⟩ = some (.slice a0 l0.length c0))
          (first
            | go_keep
            | exact hk7
            | exact hk6)
          (first
            | (go_at_call 21; refine (eqGrid_any s0 _ _ l0.length l0.length l0 w6 HQ0.out.ri ho6.ri (by omega)).mono ?_; rintro e w7 ⟨rfl, hb7⟩; have HF7 := Lib.hid (HF6.out.below hb7); have hk7 := And.intro (HF7.out.get 1 rfl : (GB w7 xg s0 (.slice (some ⟨g3, 0, none⟩) l0.length l0.length))).c0 (And.intro (HF7.out.get 1 rfl : (GB w7 xg s0 (.slice (some ⟨g3, 0, none⟩) l0.length l0.length))).c1 (And.intro (HF7.out.get 6 rfl : (GB w7 (w.heap.size) s0 (.slice a0 l0.length c0))).c0 ((HF7.out.get 6 rfl : (GB w7 (w.heap.size) s0 (.slice a0 l0.length c0))).c1))))
            | (go_at_call 18; refine HT6.out.mono ?_; rintro e w6 ⟨g6, rfl, ho6, hb6⟩; have HF6 := Lib.hid (HFd.out.below hb6); have HQ0 : Hid (OwnI 2 .i64 w6 w2.heap.size (.slice (some ⟨g3, 0, none⟩) l0.length l0.length) l0) := (HF6.out.get 2 rfl).1; have hk6 := And.intro (HF6.out.get 1 rfl : (GB w6 xg s0 (.slice (some ⟨g3, 0, none⟩) l0.length l0.length))).c0 (And.intro (HF6.out.get 1 rfl : (GB w6 xg s0 (.slice (some ⟨g3, 0, none⟩) l0.length l0.length))).c1 (And.intro (HF6.out.get 6 rfl : (GB w6 (w.heap.size) s0 (.slice a0 l0.length c0))).c0 ((HF6.out.get 6 rfl : (GB w6 (w.heap.size) s0 (.slice a0 l0.length c0))).c1)))))
        rename_i hheld
        clear hheld hk6 hk7 ho6 hb6 hb7 HT6 HF6 HFd HQ0 HF5 x0 x1 p0 p1
        obtain ⟨x0, x1, _, _⟩ := HF7.out.get 1 rfl
        go_wp2_with fail
        have HQ0 : Hid (OwnI 2 .i64 w7 w2.heap.size (.slice (some ⟨g3, 0, none⟩) l0.length l0.length) l0) := (HF7.out.get 2 rfl).1
        have HL0 : Hid (Lies (.slice (some ⟨g3, 0, none⟩) l0.length l0.length) w2.heap.size xg) := (HF7.out.get 2 rfl).2
        refine (markGrid_any s0 _ l0.length w2.heap.size (1) l0 _ HQ0.out (by omega) (by omega)).mono ?_
        rintro e w8 ⟨rfl, ho, hg⟩
        have HF8 : Hid (St w [(itW wg.heap.size w4.heap.size q2 S C (.slice A2 L.length k2) L), (bxG xg s0 (.slice (some ⟨g3, 0, none⟩) l0.length l0.length)), (rwI w2.heap.size xg (.slice (some ⟨g3, 0, none⟩) l0.length l0.length) (marks (1) l0.length)), (itW w1.heap.size w2.heap.size q1 S C (.slice A1 L.length k1) L), (bxL (w.heap.size + 1 + 1) X2 Y2), (bxL (w.heap.size + 1) X1 Y1), (bxG (w.heap.size) s0 (.slice a0 l0.length c0))] w8) := HF7.out.turn 2 (rwI w2.heap.size xg (.slice (some ⟨g3, 0, none⟩) l0.length l0.length) (marks (1) l0.length)) rfl rfl rfl (Only.grown hg HL0.out) ⟨ho, HL0.out⟩
        clear ho hg HQ0 HL0 HF7 x0 x1
        have HMm : Hid (WA w8 w1.heap.size w2.heap.size q1 S C (.slice A1 L.length k1) L) := HF8.out.get 3 rfl
        have HMg : Hid (WA w8 wg.heap.size w4.heap.size q2 S C (.slice A2 L.length k2) L) := HF8.out.get 0 rfl
        obtain ⟨q0, q1, q2, _, _, _⟩ := HMm.out.m
        obtain ⟨r0, r1, r2, _, _, _⟩ := HMg.out.m
        go_wp2_with fail
        refine (eqWayOut_any S C A2 A1 k2 k1 L _ HMg.out.oT.r HMm.out.oT.r (by omega)).mono ?_
        rintro e w9 ⟨rfl, hb9⟩
        have HF9 := Lib.hid (HF8.out.below hb9)
        clear hb9 HF8 HMm HMg q0 q1 q2 r0 r1 r2
        have HMg : Hid (WA w9 wg.heap.size w4.heap.size q2 S C (.slice A2 L.length k2) L) := HF9.out.get 0 rfl
        obtain ⟨r0, r1, r2, _, _, _⟩ := HMg.out.m
        have hszg : w4.heap.size ≤ w9.heap.size := HF9.out.szi 0 rfl
        go_wp2_with fail
        refine (markWayOut_any S C A2 k2 wg.heap.size 1 L _ HMg.out.oT (by omega) (by omega)).mono ?_
        rintro e w10 ⟨rfl, hoT, hgr⟩
        have HF10 : Hid (St w [(itW wg.heap.size w4.heap.size q2 S C (.slice A2 L.length k2) (marksPl 1 L.length)), (bxG xg s0 (.slice (some ⟨g3, 0, none⟩) l0.length l0.length)), (rwI w2.heap.size xg (.slice (some ⟨g3, 0, none⟩) l0.length l0.length) (marks (1) l0.length)), (itW w1.heap.size w2.heap.size q1 S C (.slice A1 L.length k1) L), (bxL (w.heap.size + 1 + 1) X2 Y2), (bxL (w.heap.size + 1) X1 Y1), (bxG (w.heap.size) s0 (.slice a0 l0.length c0))] w10) := HF9.out.turn 0 (itW wg.heap.size w4.heap.size q2 S C (.slice A2 L.length k2) (marksPl 1 L.length)) rfl rfl rfl (Only.grown hgr HMg.out.lT) (HMg.out.marked (hgr.block _ (Nat.lt_of_lt_of_le HMg.out.hq.2 hszg) (fun e => HMg.out.aT e.symm)) hoT)
        clear hoT hgr hszg HMg HF9 r0 r1 r2
        have HMg : Hid (WA w10 wg.heap.size w4.heap.size q2 S C (.slice A2 L.length k2) (marksPl 1 L.length)) := HF10.out.get 0 rfl
        obtain ⟨r0, r1, r2, _, _, _⟩ := HMg.out.m
        go_wp2_with fail
        refine (heldWayOut_any S C A2 k2 1 L.length _ HMg.out.oT.r (by omega) (by omega)).mono ?_
        rintro e w11 ⟨rfl, hb11⟩
        have HF11 := Lib.hid (HF10.out.below hb11)
        clear hb11 HF10 HMg r0 r1 r2
        have HPAR : Hid (∀ wr, Below w11.heap.size w11 wr → wr.cell? ⟨(w.heap.size), 0, none⟩ = some (.int .i64 s0) ∧ wr.cell? ⟨(w.heap.size), 1, none⟩ = some (.slice a0 l0.length c0) ∧ wr.cell? ⟨(w.heap.size + 1), 0, none⟩ = some (.int .i64 X1) ∧ wr.cell? ⟨(w.heap.size + 1), 1, none⟩ = some (.int .i64 Y1) ∧ wr.cell? ⟨(w.heap.size + 1 + 1), 0, none⟩ = some (.int .i64 X2) ∧ wr.cell? ⟨(w.heap.size + 1 + 1), 1, none⟩ = some (.int .i64 Y2)) := by
          intro wr hb
          have hs := HF11.out.below hb
          exact ⟨(hs.get 6 rfl : (GB wr (w.heap.size) s0 (.slice a0 l0.length c0))).c0, (hs.get 6 rfl : (GB wr (w.heap.size) s0 (.slice a0 l0.length c0))).c1, (hs.get 5 rfl : (PlB wr (w.heap.size + 1) X1 Y1)).c0, (hs.get 5 rfl : (PlB wr (w.heap.size + 1) X1 Y1)).c1, (hs.get 4 rfl : (PlB wr (w.heap.size + 1 + 1) X2 Y2)).c0, (hs.get 4 rfl : (PlB wr (w.heap.size + 1 + 1) X2 Y2)).c1⟩
        have HTO0 : Hid (∀ wr, Below w11.heap.size w11 wr → Calls Try.prog 18 #[.agg #[.int .i64 s0, .slice a0 l0.length c0]] wr (ToGridPost wr s0 l0)) := fun wr hb => toGrid_any s0 a0 c0 l0 wr (HR0.out.below' (HF11.out.below hb).bel) (by omega)
        obtain ⟨p00, p01, _, _⟩ := HF11.out.get 6 rfl
        obtain ⟨p10, p11⟩ := HF11.out.get 5 rfl
        obtain ⟨p20, p21⟩ := HF11.out.get 4 rfl
        try go_wp2_with fail
        go_cut [14] from 66 to 72 (fun c wx => ∃ (q3 : Nat) (A3 : Option Addr) (k3 : Nat), c = .pointer (some ⟨q3, 0, none⟩) ∧ St w [(itW w11.heap.size wx.heap.size q3 S C (.slice A3 L.length k3) L), (itW wg.heap.size w4.heap.size q2 S C (.slice A2 L.length k2) (marksPl 1 L.length)), (bxG xg s0 (.slice (some ⟨g3, 0, none⟩) l0.length l0.length)), (rwI w2.heap.size xg (.slice (some ⟨g3, 0, none⟩) l0.length l0.length) (marks (1) l0.length)), (itW w1.heap.size w2.heap.size q1 S C (.slice A1 L.length k1) L), (bxL (w.heap.size + 1 + 1) X2 Y2), (bxL (w.heap.size + 1) X1 Y1), (bxG (w.heap.size) s0 (.slice a0 l0.length c0))] wx)
        case first =>
          clear p00 p01 p10 p11 p20 p21
          have hB := (Below.refl w11.heap.size w11).drew
          have hZ := (ZW.made (Below.refl w11.heap.size w11)).drew
          have hk := HPAR.out _ hB
          go_region_held3 (fun w' => w'.cell? ⟨(w.heap.size), 0, none⟩ = some (.int .i64 s0) ∧ w'.cell? ⟨(w.heap.size), 1, none⟩ = some (.slice a0 l0.length c0) ∧ w'.cell? ⟨(w.heap.size + 1), 0, none⟩ = some (.int .i64 X1) ∧ w'.cell? ⟨(w.heap.size + 1), 1, none⟩ = some (.int .i64 Y1) ∧ w'.cell? ⟨(w.heap.size + 1 + 1), 0, none⟩ = some (.int .i64 X2) ∧ w'.cell? ⟨(w.heap.size + 1 + 1), 1, none⟩ = some (.int .i64 Y2))
            (first
              | (with_reducible exact hk)
              | exact HPAR.out _ hZ.bel
              | exact HPAR.out _ (ZW.made B0).bel
              | exact HPAR.out _ (ZW.made B1).bel
              | exact HPAR.out _ (ZW.made B2).bel
              | exact HPAR.out _ (Br.alloc Br.size _)
              | exact HPAR.out _ (Zr.fill_bel _ _ _))
            (first
              | (go_at_call 6; have _c := B2; clear _c; refine (hI _ l0.length v2 (o2_0).ri).mono ?_; rintro e vr ⟨A3, k3, rfl, hoT, hb⟩; have y1 := B2.size; have y2 := hb.size; have Br := B2.trans (hb.mono B2.size); have hk := HPAR.out _ Br; clear hb)
              | (go_at_call 6; have _c := Z2; clear _c; refine (hI _ l0.length v2 (o2_0).ri).mono ?_; rintro e vr ⟨A3, k3, rfl, hoT, hb⟩; have qz := Z2.hq.2; have hWz := Z2.bel.size; have Zr := Z2.below hb; have hk := HPAR.out _ Zr.bel; obtain ⟨s0, s1, s2, t0, t1, t2⟩ := Zr.m; have hzr := Zr.hq.2; clear hb)
              | (go_at_call 6; have _c := B2; clear _c; refine (hI _ l0.length _ (o2_0.alloc _).ri).mono ?_; rintro e vr ⟨A3, k3, rfl, hoT, hb⟩; have qz := (ZW.made B2).hq.2; have hWz := (ZW.made B2).bel.size; have Zr := (ZW.made B2).below hb; have hk := HPAR.out _ Zr.bel; obtain ⟨s0, s1, s2, t0, t1, t2⟩ := Zr.m; have hzr := Zr.hq.2; clear hb)
              | (have _c := B1; clear _c; go_at_call 19; refine (toPl_v X2 Y2 v1).mono ?_; rintro e v2 ⟨rfl, hb⟩; have B2 := B1.trans (hb.mono B1.size); have hk := HPAR.out _ B2; have o2_0 := (o1_0).keep hb; clear hb)
              | (have _c := Z1; clear _c; go_at_call 19; refine (toPl_v X2 Y2 v1).mono ?_; rintro e v2 ⟨rfl, hb⟩; have Z2 := Z1.below hb; have hk := HPAR.out _ Z2.bel; have o2_0 := (o1_0).keep hb; clear hb)
              | (have _c := B1; clear _c; go_at_call 19; refine (toPl_v X2 Y2 _).mono ?_; rintro e v2 ⟨rfl, hb⟩; have Z2 := (ZW.made B1).below hb; have hk := HPAR.out _ Z2.bel; have o2_0 := (o1_0.alloc _).keep hb; clear hb)
              | (have _c := B0; clear _c; go_at_call 19; refine (toPl_v X1 Y1 v0).mono ?_; rintro e v1 ⟨rfl, hb⟩; have B1 := B0.trans (hb.mono B0.size); have hk := HPAR.out _ B1; have o1_0 := (o0_0).keep hb; clear hb)
              | (have _c := Z0; clear _c; go_at_call 19; refine (toPl_v X1 Y1 v0).mono ?_; rintro e v1 ⟨rfl, hb⟩; have Z1 := Z0.below hb; have hk := HPAR.out _ Z1.bel; have o1_0 := (o0_0).keep hb; clear hb)
              | (have _c := B0; clear _c; go_at_call 19; refine (toPl_v X1 Y1 _).mono ?_; rintro e v1 ⟨rfl, hb⟩; have Z1 := (ZW.made B0).below hb; have hk := HPAR.out _ Z1.bel; have o1_0 := (o0_0.alloc _).keep hb; clear hb)
              | (go_at_call 18; refine (HTO0.out _ (by with_reducible exact hB)).mono ?_; rintro e v0 ⟨gv0, rfl, ho, hb⟩; have B0 := hB.trans (hb.mono hB.size); have hk := HPAR.out _ B0; have o0_0 := ho; clear ho hb)
              | (go_at_call 18; refine (HTO0.out _ (by with_reducible exact hZ.bel)).mono ?_; rintro e v0 ⟨gv0, rfl, ho, hb⟩; have Z0 := hZ.below hb; have hk := HPAR.out _ Z0.bel; have o0_0 := ho; clear ho hb))
          all_goals
            clear hk
            go_wp2_with fail
            go_meet
            first
              | exact ⟨_, A3, k3, rfl, HF11.out.push (Br.alloc Br.size _) (itW w11.heap.size _ _ S C (.slice A3 L.length k3) L) (Nat.le_refl _) (Nat.le_refl _) (WA.new hoT y1 y2)⟩
              | exact ⟨_, A3, k3, rfl, HF11.out.push (Zr.fill_bel S C _) (itW w11.heap.size _ _ S C (.slice A3 L.length k3) L) (Nat.le_refl _) (Nat.le_refl _) (ZW.fill Zr qz hWz hoT)⟩
        case rest =>
          obtain ⟨q3, A3, k3, rfl, hst⟩ := hcut
          rename_i hcutu3
          have HF12 := Lib.hid hst
          generalize wc = w12 at *
          clear hst HPAR HTO0 p00 p01 p10 p11 p20 p21 HF11
          have HMm : Hid (WA w12 w1.heap.size w2.heap.size q1 S C (.slice A1 L.length k1) L) := HF12.out.get 4 rfl
          have HMg : Hid (WA w12 w11.heap.size w12.heap.size q3 S C (.slice A3 L.length k3) L) := HF12.out.get 0 rfl
          obtain ⟨q0, q1, q2, _, _, _⟩ := HMm.out.m
          obtain ⟨r0, r1, r2, _, _, _⟩ := HMg.out.m
          go_wp2_with fail
          refine (eqWayOut_any S C A3 A1 k3 k1 L _ HMg.out.oT.r HMm.out.oT.r (by omega)).mono ?_
          rintro e w13 ⟨rfl, hb13⟩
          have HF13 := Lib.hid (HF12.out.below hb13)
          clear hb13 HF12 HMm HMg q0 q1 q2 r0 r1 r2
          have HMg : Hid (WA w13 wg.heap.size w4.heap.size q2 S C (.slice A2 L.length k2) (marksPl 1 L.length)) := HF13.out.get 1 rfl
          obtain ⟨r0, r1, r2, _, _, _⟩ := HMg.out.m
          go_wp2_with fail
          refine (heldWayOut_any S C A2 k2 1 L.length _ HMg.out.oT.r (by omega) (by omega)).mono ?_
          rintro e w14 ⟨rfl, hb14⟩
          have HF14 := Lib.hid (HF13.out.below hb14)
          clear hb14 HF13 HMg r0 r1 r2
          go_wp2
          go_ret
          exact ⟨rfl, HF14.out.bel⟩
  · rw [if_neg hl0] at hsz0
    go_enter Try.func4, Try.ntmps4
    go_wp2_with fail
    refine (hsz0 _).mono ?_
    rintro e w1 ⟨rfl, hb1⟩
    have HF1 := Lib.hid (HF0.out.below hb1)
    clear hb1 HF0 
    go_wp2
    go_ret
    exact ⟨rfl, HF1.out.bel⟩

set_option maxRecDepth 100000 in
theorem lifted (os : Os) (started : os.Started) (H : Type) (enc : TypeId × Value → H) :
    ReturnsInHanded {} Try.checked os 4 .any (Rows.fnExactWayOfSpec.pre6 enc Try.prog Try.f4 Rows.fnExactWayOfRow.domain false) (Rows.fnExactWayOfSpec.post enc Try.prog Try.f4 false true false false) := by
  refine returnsInHanded_of_change (C := Try.checked) own started (by kernel_rfl) Try.func4
    (ChangeSpec.witness6 (enc := enc) (C := Try.checked) false ⟨#[], #[.agg #[.int .i64 0, .slice none 0 0], .agg #[.int .i64 0, .int .i64 0], .agg #[.int .i64 0, .int .i64 0]], []⟩ 8 (by kernel_rfl) (by kernel_rfl) (by kernel_rfl) (by kernel_rfl)) ?_
  intro W base args ds gs before hval0 hW hcnd _
  have hval : ∀ (j : Nat) t v, Try.f4.params[j]? = some t → args[j]? = some v → Value.okWide Try.prog W .any base t v := hval0
  have hW' := hW
  obtain ⟨p, q, hA0, hV, rfl, hfz, hnd⟩ := hW
  have hA : DataW.TrodAll enc Try.prog W 0 (fun _ => true) true Try.f4.params.toList args.toList ds p := hA0
  rw [Try.params4] at hA hval
  obtain ⟨v0, vs0, d0, ds0, p0, q0, hargs, rfl, rfl, h0, r0⟩ := trodAll_cons hA
  obtain ⟨v1, vs1, d1, ds1, p1, q1, rfl, rfl, rfl, h1, r1⟩ := trodAll_cons r0
  obtain ⟨v2, vs2, d2, ds2, p2, q2, rfl, rfl, rfl, h2, r2⟩ := trodAll_cons r1
  obtain ⟨rfl, rfl, rfl⟩ := trodAll_nil r2
  obtain rfl : args = #[v0, v1, v2] := by cases args; simp_all
  obtain ⟨rfl, rfl⟩ := trodVars_none hV
  have k0 := h0
  have lt0 : ∀ x ∈ p0, x.block < W.heap.size := by obtain ⟨m, hm⟩ := k0; exact DataW.trod_lt m _ _ _ hm
  obtain ⟨side0, a0, cap0, z0, rfl, w0⟩ := open_grid (hval 0 42 v0 rfl rfl) h0
  have k1 := h1
  have lt1 : ∀ x ∈ p1, x.block < W.heap.size := by obtain ⟨m, hm⟩ := k1; exact DataW.trod_lt m _ _ _ hm
  obtain ⟨x1, y1, rfl, w1⟩ := open_pl (hval 1 43 v1 rfl rfl) h1
  have k2 := h2
  have lt2 : ∀ x ∈ p2, x.block < W.heap.size := by obtain ⟨m, hm⟩ := k2; exact DataW.trod_lt m _ _ _ hm
  obtain ⟨x2, y2, rfl, w2⟩ := open_pl (hval 2 43 v2 rfl rfl) h2
  clear hA0 hval0
  refine (walk side0 a0 cap0 z0 x1 y1 x2 y2 W w0 w1 w2).mono fun e W' ⟨he, bel⟩ => ?_
  subst he
  exact ⟨_, rfl, _, _, _, [], _, [], hW', trodAll_mk1 (shut_bool Try.underlying4 _), (trodAll_cons_mk (Below.trod laidOut (by kernel_rfl) (of_decide_eq_true (by kernel_rfl)) k0 bel lt0) (trodAll_cons_mk (Below.trod laidOut (by kernel_rfl) (of_decide_eq_true (by kernel_rfl)) k1 bel lt1) (trodAll_cons_mk (Below.trod laidOut (by kernel_rfl) (of_decide_eq_true (by kernel_rfl)) k2 bel lt2) trodAll_mk0))), rfl, bel.frame _, fun h => by cases h⟩

theorem over : Rows.fnExactWayOfRow.holds Try.pinned (OpenSpec.ofChange Rows.fnExactWayOfSpec) :=
  OpenClaim.holds_of_wide 4 Try.f4 rfl rfl rfl rfl rfl rfl rfl ⟨rfl, rfl, rfl, rfl, rfl⟩ rfl rfl rfl rfl rfl (by kernel_rfl) Try.func4 (by kernel_rfl)
    (of_decide_eq_true (by kernel_rfl)) (by unfold Func.isWrapper; first | (rw [if_pos (by decide +kernel)]; kernel_rfl) | (rw [if_neg (by decide +kernel)]; exact ⟨rfl, rfl⟩))
    (fun os started H enc _ => lifted os started H enc)

end Go.Proofs.Ytmjbefjkkncjlaa.fnExactWayOf
namespace Go.Proofs.Ytmjbefjkkncjlaa
/-- The statement. -/
theorem fnExactWayOf_holds : Rows.FnExactWayOfSaid := fnExactWayOf.over
end Go.Proofs.Ytmjbefjkkncjlaa
