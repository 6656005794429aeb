/- FnExactMerge: for every input the law returns true, and its arguments read as before. No condition beyond the row's own. -/
import Derived.Test.YtjcgelkeegepnaaRows
import Derived.WalkKit
import Derived.ProofKit
import Derived.OpenShut
import Derived.ShutString
import Derived.ChangeOld
import Derived.Below
import Derived.WalkSpells
import Derived.WalkLawsBesides
import Derived.Lib.Hide
import Derived.Test.YtjcgelkeegepnaaItems
import Derived.Test.YtjcgelkeegepnaaMgW
import Derived.Test.YtjcgelkeegepnaaMgP
import Derived.Test.YtjcgelkeegepnaaGridO
namespace Go.Proofs.Ytjcgelkeegepnaa.fnExactMerge
open Go.ChangeShapes Go.WideShapes Go.ChangeAt Go.RowKit
open Go.ChangeMaps (open_string shut_string)
set_option linter.unusedVariables false

theorem own : ownKnob Try.prog.godebug = none := by kernel_rfl
theorem laidOut : laidOutB Try.prog = true := by kernel_rfl

set_option maxRecDepth 100000 in
set_option maxHeartbeats 4000000 in
theorem walk (s0 : Int) (a0 : Option Addr) (c0 : Nat) (l0 : List Int) (s1 : Int) (a1 : Option Addr) (c1 : Nat) (l1 : List Int) (s2 : Int) (a2 : Option Addr) (c2 : Nat) (l2 : List Int) (w : World) (h0 : InGrid w s0 a0 l0) (h1 : InGrid w s1 a1 l1) (h2 : InGrid w s2 a2 l2) :
    Calls Try.prog 8 #[.agg #[.int .i64 s0, .slice a0 l0.length c0], .agg #[.int .i64 s1, .slice a1 l1.length c1], .agg #[.int .i64 s2, .slice a2 l2.length c2]] w fun e w' => e = .returned (.bool true) ∧ Below w.heap.size w w' := by
  have HR0 := Lib.hid h0.2.1
  have hlm0 := h0.2.2.1
  have HS0 := Lib.hid h0.nums
  have HR1 := Lib.hid h1.2.1
  have hlm1 := h1.2.2.1
  have HS1 := Lib.hid h1.nums
  have HR2 := Lib.hid h2.2.1
  have hlm2 := h2.2.2.1
  have HS2 := Lib.hid h2.nums
  unfold maxLen at hlm0 hlm1 hlm2
  clear h0 h1 h2
  have HF0 : Hid (St w [(bxG (w.heap.size + 1 + 1) s2 (.slice a2 l2.length c2)), (bxG (w.heap.size + 1) s1 (.slice a1 l1.length c1)), (bxG (w.heap.size) s0 (.slice a0 l0.length c0))] (((w.alloc (.cells #[.int .i64 s0, .slice a0 l0.length c0] 48)).alloc (.cells #[.int .i64 s1, .slice a1 l1.length c1] 48)).alloc (.cells #[.int .i64 s2, .slice a2 l2.length c2] 48))) := by
    have := ((((St.start w).push ((Below.refl _ w).alloc (Nat.le_refl _) (.cells #[.int .i64 s0, .slice a0 l0.length c0] 48)) (bxG w.heap.size s0 (.slice a0 l0.length c0)) (Nat.le_refl _) (by simp [bxG]) (GB.made w s0 (.slice a0 l0.length c0) 48)).push ((Below.refl _ (w.alloc (.cells #[.int .i64 s0, .slice a0 l0.length c0] 48))).alloc (Nat.le_refl _) (.cells #[.int .i64 s1, .slice a1 l1.length c1] 48)) (bxG (w.alloc (.cells #[.int .i64 s0, .slice a0 l0.length c0] 48)).heap.size s1 (.slice a1 l1.length c1)) (Nat.le_refl _) (by simp [bxG]) (GB.made (w.alloc (.cells #[.int .i64 s0, .slice a0 l0.length c0] 48)) s1 (.slice a1 l1.length c1) 48)).push ((Below.refl _ ((w.alloc (.cells #[.int .i64 s0, .slice a0 l0.length c0] 48)).alloc (.cells #[.int .i64 s1, .slice a1 l1.length c1] 48))).alloc (Nat.le_refl _) (.cells #[.int .i64 s2, .slice a2 l2.length c2] 48)) (bxG ((w.alloc (.cells #[.int .i64 s0, .slice a0 l0.length c0] 48)).alloc (.cells #[.int .i64 s1, .slice a1 l1.length c1] 48)).heap.size s2 (.slice a2 l2.length c2)) (Nat.le_refl _) (by simp [bxG]) (GB.made ((w.alloc (.cells #[.int .i64 s0, .slice a0 l0.length c0] 48)).alloc (.cells #[.int .i64 s1, .slice a1 l1.length c1] 48)) s2 (.slice a2 l2.length c2) 48))
    simp only [alloc_size] at this
    exact this
  have hsz0 := fun w => szGrid_any s0 (1048576) a0 l0.length c0 w (by omega) (by decide) (by decide)
  by_cases hl0 : (l0.length : Int) ≤ 1048576
  · rw [if_pos hl0] at hsz0
    have hleft1 : (0 : Int) ≤ 1048576 - l0.length := by omega
    have hsz1 := fun w => szGrid_any s1 (1048576 - l0.length) a1 l1.length c1 w (by omega) hleft1 (by omega)
    by_cases hl1 : (l1.length : Int) ≤ 1048576 - l0.length
    · rw [if_pos hl1] at hsz1
      have hleft2 : (0 : Int) ≤ 1048576 - l0.length - l1.length := by omega
      have hsz2 := fun w => szGrid_any s2 (1048576 - l0.length - l1.length) a2 l2.length c2 w (by omega) hleft2 (by omega)
      by_cases hl2 : (l2.length : Int) ≤ 1048576 - l0.length - l1.length
      · rw [if_pos hl2] at hsz2
        have hleft3 : (0 : Int) ≤ 1048576 - l0.length - l1.length - l2.length := by omega
        have hM := fun A0 c0' A1 c1' A2 c2' w h0 h1 h2 => mMerge_any s0 A0 c0' l0 s1 A1 c1' l1 s2 A2 c2' l2 w h0 h1 h2 (by omega) (by omega) (by omega)
        have hI := fun A0 c0' A1 c1' A2 c2' w h0 h1 h2 => pMerge_any s0 A0 c0' l0 s1 A1 c1' l1 s2 A2 c2' l2 w h0 h1 h2 (by omega) (by omega) (by omega)
        have hlen := mergeOut_len s0 l0 s1 l1 s2 l2
        generalize mergeOut s0 l0 s1 l1 s2 l2 = RES at *
        obtain ⟨C, S, T, L⟩ := RES
        unfold MOut at hM hI
        simp only at hM hI hlen
        go_enter Try.func8, Try.ntmps8
        go_wp2_with fail
        refine (hsz0 _).mono ?_
        rintro e w1 ⟨rfl, hb1⟩
        have HF1 := Lib.hid (HF0.out.below hb1)
        clear hb1 HF0 
        obtain ⟨p10, p11, _, _⟩ := HF1.out.get 1 rfl
        go_wp2_with fail
        refine (hsz1 _).mono ?_
        rintro e w2 ⟨rfl, hb2⟩
        have HF2 := Lib.hid (HF1.out.below hb2)
        clear hb2 HF1 p10 p11
        obtain ⟨p20, p21, _, _⟩ := HF2.out.get 0 rfl
        go_wp2_with fail
        refine (hsz2 _).mono ?_
        rintro e w3 ⟨rfl, hb3⟩
        have HF3 := Lib.hid (HF2.out.below hb3)
        clear hb3 HF2 p20 p21
        clear hsz0 hsz1 hsz2
        have HPAR : Hid (∀ wr, Below w3.heap.size w3 wr → wr.cell? ⟨(w.heap.size), 0, none⟩ = some (.int .i64 s0) ∧ wr.cell? ⟨(w.heap.size), 1, none⟩ = some (.slice a0 l0.length c0) ∧ wr.cell? ⟨(w.heap.size + 1), 0, none⟩ = some (.int .i64 s1) ∧ wr.cell? ⟨(w.heap.size + 1), 1, none⟩ = some (.slice a1 l1.length c1) ∧ wr.cell? ⟨(w.heap.size + 1 + 1), 0, none⟩ = some (.int .i64 s2) ∧ wr.cell? ⟨(w.heap.size + 1 + 1), 1, none⟩ = some (.slice a2 l2.length c2)) := by
          intro wr hb
          have hs := HF3.out.below hb
          exact ⟨(hs.get 2 rfl : (GB wr (w.heap.size) s0 (.slice a0 l0.length c0))).c0, (hs.get 2 rfl : (GB wr (w.heap.size) s0 (.slice a0 l0.length c0))).c1, (hs.get 1 rfl : (GB wr (w.heap.size + 1) s1 (.slice a1 l1.length c1))).c0, (hs.get 1 rfl : (GB wr (w.heap.size + 1) s1 (.slice a1 l1.length c1))).c1, (hs.get 0 rfl : (GB wr (w.heap.size + 1 + 1) s2 (.slice a2 l2.length c2))).c0, (hs.get 0 rfl : (GB wr (w.heap.size + 1 + 1) s2 (.slice a2 l2.length c2))).c1⟩
        have HTO0 : Hid (∀ wr, Below w3.heap.size w3 wr → Calls Try.prog 26 #[.agg #[.int .i64 s0, .slice a0 l0.length c0]] wr (ToGridPost wr s0 l0)) := fun wr hb => toGrid_any s0 a0 c0 l0 wr (HR0.out.below' (HF3.out.below hb).bel) (by omega)
        have HTO1 : Hid (∀ wr, Below w3.heap.size w3 wr → Calls Try.prog 26 #[.agg #[.int .i64 s1, .slice a1 l1.length c1]] wr (ToGridPost wr s1 l1)) := fun wr hb => toGrid_any s1 a1 c1 l1 wr (HR1.out.below' (HF3.out.below hb).bel) (by omega)
        have HTO2 : Hid (∀ wr, Below w3.heap.size w3 wr → Calls Try.prog 26 #[.agg #[.int .i64 s2, .slice a2 l2.length c2]] wr (ToGridPost wr s2 l2)) := fun wr hb => toGrid_any s2 a2 c2 l2 wr (HR2.out.below' (HF3.out.below hb).bel) (by omega)
        obtain ⟨p00, p01, _, _⟩ := HF3.out.get 2 rfl
        obtain ⟨p10, p11, _, _⟩ := HF3.out.get 1 rfl
        obtain ⟨p20, p21, _, _⟩ := HF3.out.get 0 rfl
        go_wp2_with fail
        go_cut [8] from 32 to 38 (fun c wx => ∃ (q1 : Nat) (A1 : Option Addr) (k1 : Nat) (D1 : Option Addr) (d1 : Nat), c = .pointer (some ⟨q1, 0, none⟩) ∧ St w [(itM w3.heap.size wx.heap.size q1 S C (.slice A1 T.length k1) (.slice D1 L.length d1) T L), (bxG (w.heap.size + 1 + 1) s2 (.slice a2 l2.length c2)), (bxG (w.heap.size + 1) s1 (.slice a1 l1.length c1)), (bxG (w.heap.size) s0 (.slice a0 l0.length c0))] wx)
        case first =>
          clear p00 p01 p10 p11 p20 p21
          have hB := (Below.refl w3.heap.size w3).drew
          have hZ := (ZM.made (Below.refl w3.heap.size w3)).drew
          have hk := HPAR.out _ hB
          go_region_held3 (fun w' => w'.cell? ⟨(w.heap.size), 0, none⟩ = some (.int .i64 s0) ∧ w'.cell? ⟨(w.heap.size), 1, none⟩ = some (.slice a0 l0.length c0) ∧ w'.cell? ⟨(w.heap.size + 1), 0, none⟩ = some (.int .i64 s1) ∧ w'.cell? ⟨(w.heap.size + 1), 1, none⟩ = some (.slice a1 l1.length c1) ∧ w'.cell? ⟨(w.heap.size + 1 + 1), 0, none⟩ = some (.int .i64 s2) ∧ w'.cell? ⟨(w.heap.size + 1 + 1), 1, none⟩ = some (.slice a2 l2.length c2))
            (first
              | (with_reducible exact hk)
              | exact HPAR.out _ hZ.bel
              | exact HPAR.out _ (ZM.made B0).bel
              | exact HPAR.out _ (ZM.made B1).bel
              | exact HPAR.out _ (ZM.made B2).bel
              | exact HPAR.out _ (Br.alloc Br.size _)
              | exact HPAR.out _ (Zr.fill_bel _ _ _ _))
            (first
              | (go_at_call 24; have _c := B2; clear _c; refine (hM _ _ _ _ _ _ v2 (o2_0).ri (o2_1).ri (o2_2).ri).mono ?_; rintro e vr ⟨A1, k1, D1, d1, rfl, hoT, hoC, hap, hb⟩; have y1 := B2.size; have y2 := hb.size; have Br := B2.trans (hb.mono B2.size); have hk := HPAR.out _ Br; clear hb)
              | (go_at_call 24; have _c := Z2; clear _c; refine (hM _ _ _ _ _ _ v2 (o2_0).ri (o2_1).ri (o2_2).ri).mono ?_; rintro e vr ⟨A1, k1, D1, d1, rfl, hoT, hoC, hap, hb⟩; have qz := Z2.hq.2; have hWz := Z2.bel.size; have Zr := Z2.below hb; have hk := HPAR.out _ Zr.bel; obtain ⟨s0, s1, s2, s3, t0, t1, t2, t3⟩ := Zr.m; have hzr := Zr.hq.2; clear hb)
              | (go_at_call 24; have _c := B2; clear _c; refine (hM _ _ _ _ _ _ _ (o2_0.alloc _).ri (o2_1.alloc _).ri (o2_2.alloc _).ri).mono ?_; rintro e vr ⟨A1, k1, D1, d1, rfl, hoT, hoC, hap, hb⟩; have qz := (ZM.made B2).hq.2; have hWz := (ZM.made B2).bel.size; have Zr := (ZM.made B2).below hb; have hk := HPAR.out _ Zr.bel; obtain ⟨s0, s1, s2, s3, t0, t1, t2, t3⟩ := Zr.m; have hzr := Zr.hq.2; clear hb)
              | (go_at_call 26; refine (HTO2.out v1 (by with_reducible exact B1)).mono ?_; rintro e v2 ⟨gv2, rfl, ho, hb⟩; have B2 := B1.trans (hb.mono B1.size); have hk := HPAR.out _ B2; have o2_0 := (o1_0).keep hb; have o2_1 := (o1_1).keep hb; have o2_2 := ho; clear ho hb)
              | (go_at_call 26; refine (HTO2.out v1 (by with_reducible exact Z1.bel)).mono ?_; rintro e v2 ⟨gv2, rfl, ho, hb⟩; have Z2 := Z1.below hb; have hk := HPAR.out _ Z2.bel; have o2_0 := (o1_0).keep hb; have o2_1 := (o1_1).keep hb; have o2_2 := ho; clear ho hb)
              | (have _c := B1; clear _c; go_at_call 26; refine (HTO2.out _ (by with_reducible exact (ZM.made B1).bel)).mono ?_; rintro e v2 ⟨gv2, rfl, ho, hb⟩; have Z2 := (ZM.made B1).below hb; have hk := HPAR.out _ Z2.bel; have o2_0 := (o1_0.alloc _).keep hb; have o2_1 := (o1_1.alloc _).keep hb; have o2_2 := ho; clear ho hb)
              | (go_at_call 26; refine (HTO1.out v0 (by with_reducible exact B0)).mono ?_; rintro e v1 ⟨gv1, rfl, ho, hb⟩; have B1 := B0.trans (hb.mono B0.size); have hk := HPAR.out _ B1; have o1_0 := (o0_0).keep hb; have o1_1 := ho; clear ho hb)
              | (go_at_call 26; refine (HTO1.out v0 (by with_reducible exact Z0.bel)).mono ?_; rintro e v1 ⟨gv1, rfl, ho, hb⟩; have Z1 := Z0.below hb; have hk := HPAR.out _ Z1.bel; have o1_0 := (o0_0).keep hb; have o1_1 := ho; clear ho hb)
              | (have _c := B0; clear _c; go_at_call 26; refine (HTO1.out _ (by with_reducible exact (ZM.made B0).bel)).mono ?_; rintro e v1 ⟨gv1, rfl, ho, hb⟩; have Z1 := (ZM.made B0).below hb; have hk := HPAR.out _ Z1.bel; have o1_0 := (o0_0.alloc _).keep hb; have o1_1 := ho; clear ho hb)
              | (go_at_call 26; refine (HTO0.out _ (by with_reducible exact hB)).mono ?_; rintro e v0 ⟨gv0, rfl, ho, hb⟩; have B0 := hB.trans (hb.mono hB.size); have o0_0 := ho; have hk := HPAR.out _ B0; clear ho hb)
              | (go_at_call 26; refine (HTO0.out _ (by with_reducible exact hZ.bel)).mono ?_; rintro e v0 ⟨gv0, rfl, ho, hb⟩; have Z0 := hZ.below hb; have o0_0 := ho; have hk := HPAR.out _ Z0.bel; clear ho hb))
          all_goals
            clear hk
            go_wp2_with fail
            go_meet
            first
              | exact ⟨_, A1, k1, D1, d1, rfl, HF3.out.push (Br.alloc Br.size _) (itM w3.heap.size _ _ S C (.slice A1 T.length k1) (.slice D1 L.length d1) T L) (Nat.le_refl _) (Nat.le_refl _) (MA.new hoT hoC hap y1 y2)⟩
              | exact ⟨_, A1, k1, D1, d1, rfl, HF3.out.push (Zr.fill_bel S C _ _) (itM w3.heap.size _ _ S C (.slice A1 T.length k1) (.slice D1 L.length d1) T L) (Nat.le_refl _) (Nat.le_refl _) (ZM.fill Zr qz hWz hoT hoC hap)⟩
        case rest =>
          obtain ⟨q1, A1, k1, D1, d1, rfl, hst⟩ := hcut
          rename_i hcutu1
          have HF4 := Lib.hid hst
          generalize wc = w4 at *
          clear hst HPAR HTO0 HTO1 HTO2 p00 p01 p10 p11 p20 p21 HF3
          obtain ⟨p0, p1, _, _⟩ := HF4.out.get 3 rfl
          go_wp2_with fail
          refine (toGrid_any s0 a0 c0 l0 _ (HR0.out.below' HF4.out.bel) (by omega)).mono ?_
          rintro e w5 ⟨g5, rfl, ho5, hb5⟩
          have HF5 := Lib.hid (HF4.out.push hb5 (rwI w4.heap.size w5.heap.size (.slice (some ⟨g5, 0, none⟩) l0.length l0.length) l0) (Nat.le_refl _) (Nat.le_refl _) ⟨ho5, ho5.lies⟩)
          have HG5 := Lib.hid (HF5.out.push ((Below.refl _ w5).alloc (Nat.le_refl _) (.cells #[.int .i64 s0, (.slice (some ⟨g5, 0, none⟩) l0.length l0.length)] 25)) (bxG w5.heap.size s0 (.slice (some ⟨g5, 0, none⟩) l0.length l0.length)) (Nat.le_refl _) (by simp [bxG]) (GB.made w5 s0 (.slice (some ⟨g5, 0, none⟩) l0.length l0.length) 25))
          clear HF5
          clear hb5 ho5 HF4 p0 p1
          obtain ⟨p0, p1, _, _⟩ := HG5.out.get 4 rfl
          go_wp2_with fail
          refine (toGrid_any s1 a1 c1 l1 _ (HR1.out.below' HG5.out.bel) (by omega)).mono ?_
          rintro e w6 ⟨g6, rfl, ho6, hb6⟩
          have HF6 := Lib.hid (HG5.out.push hb6 (rwI (w5.alloc (.cells #[.int .i64 s0, (.slice (some ⟨g5, 0, none⟩) l0.length l0.length)] 25)).heap.size w6.heap.size (.slice (some ⟨g6, 0, none⟩) l1.length l1.length) l1) (Nat.le_refl _) (Nat.le_refl _) ⟨ho6, ho6.lies⟩)
          have HG6 := Lib.hid (HF6.out.push ((Below.refl _ w6).alloc (Nat.le_refl _) (.cells #[.int .i64 s1, (.slice (some ⟨g6, 0, none⟩) l1.length l1.length)] 25)) (bxG w6.heap.size s1 (.slice (some ⟨g6, 0, none⟩) l1.length l1.length)) (Nat.le_refl _) (by simp [bxG]) (GB.made w6 s1 (.slice (some ⟨g6, 0, none⟩) l1.length l1.length) 25))
          clear HF6
          clear hb6 ho6 HG5 p0 p1
          obtain ⟨p0, p1, _, _⟩ := HG6.out.get 5 rfl
          go_wp2_with fail
          refine (toGrid_any s2 a2 c2 l2 _ (HR2.out.below' HG6.out.bel) (by omega)).mono ?_
          rintro e w7 ⟨g7, rfl, ho7, hb7⟩
          have HF7 := Lib.hid (HG6.out.push hb7 (rwI (w6.alloc (.cells #[.int .i64 s1, (.slice (some ⟨g6, 0, none⟩) l1.length l1.length)] 25)).heap.size w7.heap.size (.slice (some ⟨g7, 0, none⟩) l2.length l2.length) l2) (Nat.le_refl _) (Nat.le_refl _) ⟨ho7, ho7.lies⟩)
          have HG7 := Lib.hid (HF7.out.push ((Below.refl _ w7).alloc (Nat.le_refl _) (.cells #[.int .i64 s2, (.slice (some ⟨g7, 0, none⟩) l2.length l2.length)] 25)) (bxG w7.heap.size s2 (.slice (some ⟨g7, 0, none⟩) l2.length l2.length)) (Nat.le_refl _) (by simp [bxG]) (GB.made w7 s2 (.slice (some ⟨g7, 0, none⟩) l2.length l2.length) 25))
          clear HF7
          clear hb7 ho7 HG6 p0 p1
          obtain ⟨x00, x01, _, _⟩ := HG7.out.get 4 rfl
          obtain ⟨x10, x11, _, _⟩ := HG7.out.get 2 rfl
          obtain ⟨x20, x21, _, _⟩ := HG7.out.get 0 rfl
          go_wp2_with fail
          have HQ0 : Hid (OwnI 2 .i64 (w7.alloc (.cells #[.int .i64 s2, (.slice (some ⟨g7, 0, none⟩) l2.length l2.length)] 25)) w4.heap.size (.slice (some ⟨g5, 0, none⟩) l0.length l0.length) l0) := (HG7.out.get 5 rfl).1
          have HQ1 : Hid (OwnI 2 .i64 (w7.alloc (.cells #[.int .i64 s2, (.slice (some ⟨g7, 0, none⟩) l2.length l2.length)] 25)) (w5.alloc (.cells #[.int .i64 s0, (.slice (some ⟨g5, 0, none⟩) l0.length l0.length)] 25)).heap.size (.slice (some ⟨g6, 0, none⟩) l1.length l1.length) l1) := (HG7.out.get 3 rfl).1
          have HQ2 : Hid (OwnI 2 .i64 (w7.alloc (.cells #[.int .i64 s2, (.slice (some ⟨g7, 0, none⟩) l2.length l2.length)] 25)) (w6.alloc (.cells #[.int .i64 s1, (.slice (some ⟨g6, 0, none⟩) l1.length l1.length)] 25)).heap.size (.slice (some ⟨g7, 0, none⟩) l2.length l2.length) l2) := (HG7.out.get 1 rfl).1
          refine (hI _ _ _ _ _ _ _ HQ0.out.ri HQ1.out.ri HQ2.out.ri).mono ?_
          rintro e w8 ⟨A2, k2, D2, d2, rfl, hoT, hoC, hap, hb8⟩
          have HF8 := Lib.hid (HG7.out.push (hb8.alloc hb8.size (.cells #[.int .i64 S, (.slice A2 T.length k2), (.slice D2 L.length d2), .int .i64 C] 45)) (itM (w7.alloc (.cells #[.int .i64 s2, (.slice (some ⟨g7, 0, none⟩) l2.length l2.length)] 25)).heap.size (w8.alloc (.cells #[.int .i64 S, (.slice A2 T.length k2), (.slice D2 L.length d2), .int .i64 C] 45)).heap.size w8.heap.size S C (.slice A2 T.length k2) (.slice D2 L.length d2) T L) (Nat.le_refl _) (Nat.le_refl _) (MA.new hoT hoC hap (Nat.le_refl _) hb8.size))
          clear hb8 hoT hoC hap HG7 HQ0 HQ1 HQ2 x00 x01 x10 x11 x20 x21
          have HMm : Hid (MA (w8.alloc (.cells #[.int .i64 S, (.slice A2 T.length k2), (.slice D2 L.length d2), .int .i64 C] 45)) w3.heap.size w4.heap.size q1 S C (.slice A1 T.length k1) (.slice D1 L.length d1) T L) := HF8.out.get 7 rfl
          have HMg : Hid (MA (w8.alloc (.cells #[.int .i64 S, (.slice A2 T.length k2), (.slice D2 L.length d2), .int .i64 C] 45)) (w7.alloc (.cells #[.int .i64 s2, (.slice (some ⟨g7, 0, none⟩) l2.length l2.length)] 25)).heap.size (w8.alloc (.cells #[.int .i64 S, (.slice A2 T.length k2), (.slice D2 L.length d2), .int .i64 C] 45)).heap.size w8.heap.size S C (.slice A2 T.length k2) (.slice D2 L.length d2) T L) := HF8.out.get 0 rfl
          obtain ⟨q0, q1, q2, q3, _, _, _, _⟩ := HMm.out.m
          obtain ⟨r0, r1, r2, r3, _, _, _, _⟩ := HMg.out.m
          go_wp2_with fail
          refine (eqMergeOut_any S C A2 A1 k2 k1 D2 D1 d2 d1 T L _ HMg.out.oT.ri HMm.out.oT.ri HMg.out.oC.r HMm.out.oC.r (by omega) (by omega)).mono ?_
          rintro e w9 ⟨rfl, hb9⟩
          have HF9 := Lib.hid (HF8.out.below hb9)
          clear hb9 HF8 HMm HMg q0 q1 q2 q3 r0 r1 r2 r3
          obtain ⟨x0, x1, _, _⟩ := HF9.out.get 5 rfl
          obtain ⟨p0, p1, _, _⟩ := HF9.out.get 10 rfl
          go_wp2_with fail
          have HFd := Lib.hid HF9.out.drew
          have HT10 := Lib.hid (toGrid_any s0 a0 c0 l0 w9.drew (HR0.out.below' HFd.out.bel) (by omega))
          go_region_held3 (fun w' => w'.cell? ⟨w5.heap.size, 0, none⟩ = some (.int .i64 s0) ∧ w'.cell? ⟨w5.heap.size, 1, none⟩ = some ((.slice (some ⟨g5, 0, none⟩) l0.length l0.length)) ∧ w'.cell? ⟨(w.heap.size), 0, none⟩ = some (.int .i64 s0) ∧ w'.cell? ⟨(w.heap.size), 1, none⟩ = some (.slice a0 l0.length c0))
            (first
              | go_keep
              | exact hk11
              | exact hk10)
            (first
              | (go_at_call 28; refine (eqGrid_any s0 _ _ l0.length l0.length l0 w10 HQ0.out.ri ho10.ri (by omega)).mono ?_; rintro e w11 ⟨rfl, hb11⟩; have HF11 := Lib.hid (HF10.out.below hb11); have hk11 := And.intro (HF11.out.get 5 rfl : (GB w11 w5.heap.size s0 (.slice (some ⟨g5, 0, none⟩) l0.length l0.length))).c0 (And.intro (HF11.out.get 5 rfl : (GB w11 w5.heap.size s0 (.slice (some ⟨g5, 0, none⟩) l0.length l0.length))).c1 (And.intro (HF11.out.get 10 rfl : (GB w11 (w.heap.size) s0 (.slice a0 l0.length c0))).c0 ((HF11.out.get 10 rfl : (GB w11 (w.heap.size) s0 (.slice a0 l0.length c0))).c1))))
              | (go_at_call 26; refine HT10.out.mono ?_; rintro e w10 ⟨g10, rfl, ho10, hb10⟩; have HF10 := Lib.hid (HFd.out.below hb10); have HQ0 : Hid (OwnI 2 .i64 w10 w4.heap.size (.slice (some ⟨g5, 0, none⟩) l0.length l0.length) l0) := (HF10.out.get 6 rfl).1; have hk10 := And.intro (HF10.out.get 5 rfl : (GB w10 w5.heap.size s0 (.slice (some ⟨g5, 0, none⟩) l0.length l0.length))).c0 (And.intro (HF10.out.get 5 rfl : (GB w10 w5.heap.size s0 (.slice (some ⟨g5, 0, none⟩) l0.length l0.length))).c1 (And.intro (HF10.out.get 10 rfl : (GB w10 (w.heap.size) s0 (.slice a0 l0.length c0))).c0 ((HF10.out.get 10 rfl : (GB w10 (w.heap.size) s0 (.slice a0 l0.length c0))).c1)))))
          rename_i hheld
          clear hheld hk10 hk11 ho10 hb10 hb11 HT10 HF10 HFd HQ0 HF9 x0 x1 p0 p1
          obtain ⟨x0, x1, _, _⟩ := HF11.out.get 3 rfl
          obtain ⟨p0, p1, _, _⟩ := HF11.out.get 9 rfl
          go_wp2_with fail
          have HFd := Lib.hid HF11.out.drew
          have HT12 := Lib.hid (toGrid_any s1 a1 c1 l1 w11.drew (HR1.out.below' HFd.out.bel) (by omega))
          go_region_held3 (fun w' => w'.cell? ⟨w6.heap.size, 0, none⟩ = some (.int .i64 s1) ∧ w'.cell? ⟨w6.heap.size, 1, none⟩ = some ((.slice (some ⟨g6, 0, none⟩) l1.length l1.length)) ∧ w'.cell? ⟨(w.heap.size + 1), 0, none⟩ = some (.int .i64 s1) ∧ w'.cell? ⟨(w.heap.size + 1), 1, none⟩ = some (.slice a1 l1.length c1))
            (first
              | go_keep
              | exact hk13
              | exact hk12)
            (first
              | (go_at_call 28; refine (eqGrid_any s1 _ _ l1.length l1.length l1 w12 HQ1.out.ri ho12.ri (by omega)).mono ?_; rintro e w13 ⟨rfl, hb13⟩; have HF13 := Lib.hid (HF12.out.below hb13); have hk13 := And.intro (HF13.out.get 3 rfl : (GB w13 w6.heap.size s1 (.slice (some ⟨g6, 0, none⟩) l1.length l1.length))).c0 (And.intro (HF13.out.get 3 rfl : (GB w13 w6.heap.size s1 (.slice (some ⟨g6, 0, none⟩) l1.length l1.length))).c1 (And.intro (HF13.out.get 9 rfl : (GB w13 (w.heap.size + 1) s1 (.slice a1 l1.length c1))).c0 ((HF13.out.get 9 rfl : (GB w13 (w.heap.size + 1) s1 (.slice a1 l1.length c1))).c1))))
              | (go_at_call 26; refine HT12.out.mono ?_; rintro e w12 ⟨g12, rfl, ho12, hb12⟩; have HF12 := Lib.hid (HFd.out.below hb12); have HQ1 : Hid (OwnI 2 .i64 w12 (w5.alloc (.cells #[.int .i64 s0, (.slice (some ⟨g5, 0, none⟩) l0.length l0.length)] 25)).heap.size (.slice (some ⟨g6, 0, none⟩) l1.length l1.length) l1) := (HF12.out.get 4 rfl).1; have hk12 := And.intro (HF12.out.get 3 rfl : (GB w12 w6.heap.size s1 (.slice (some ⟨g6, 0, none⟩) l1.length l1.length))).c0 (And.intro (HF12.out.get 3 rfl : (GB w12 w6.heap.size s1 (.slice (some ⟨g6, 0, none⟩) l1.length l1.length))).c1 (And.intro (HF12.out.get 9 rfl : (GB w12 (w.heap.size + 1) s1 (.slice a1 l1.length c1))).c0 ((HF12.out.get 9 rfl : (GB w12 (w.heap.size + 1) s1 (.slice a1 l1.length c1))).c1)))))
          rename_i hheld
          clear hheld hk12 hk13 ho12 hb12 hb13 HT12 HF12 HFd HQ1 HF11 x0 x1 p0 p1
          obtain ⟨x0, x1, _, _⟩ := HF13.out.get 1 rfl
          obtain ⟨p0, p1, _, _⟩ := HF13.out.get 8 rfl
          go_wp2_with fail
          have HFd := Lib.hid HF13.out.drew
          have HT14 := Lib.hid (toGrid_any s2 a2 c2 l2 w13.drew (HR2.out.below' HFd.out.bel) (by omega))
          go_region_held3 (fun w' => w'.cell? ⟨w7.heap.size, 0, none⟩ = some (.int .i64 s2) ∧ w'.cell? ⟨w7.heap.size, 1, none⟩ = some ((.slice (some ⟨g7, 0, none⟩) l2.length l2.length)) ∧ w'.cell? ⟨(w.heap.size + 1 + 1), 0, none⟩ = some (.int .i64 s2) ∧ w'.cell? ⟨(w.heap.size + 1 + 1), 1, none⟩ = some (.slice a2 l2.length c2))
            (first
              | go_keep
              | exact hk15
              | exact hk14)
            (first
              | (go_at_call 28; refine (eqGrid_any s2 _ _ l2.length l2.length l2 w14 HQ2.out.ri ho14.ri (by omega)).mono ?_; rintro e w15 ⟨rfl, hb15⟩; have HF15 := Lib.hid (HF14.out.below hb15); have hk15 := And.intro (HF15.out.get 1 rfl : (GB w15 w7.heap.size s2 (.slice (some ⟨g7, 0, none⟩) l2.length l2.length))).c0 (And.intro (HF15.out.get 1 rfl : (GB w15 w7.heap.size s2 (.slice (some ⟨g7, 0, none⟩) l2.length l2.length))).c1 (And.intro (HF15.out.get 8 rfl : (GB w15 (w.heap.size + 1 + 1) s2 (.slice a2 l2.length c2))).c0 ((HF15.out.get 8 rfl : (GB w15 (w.heap.size + 1 + 1) s2 (.slice a2 l2.length c2))).c1))))
              | (go_at_call 26; refine HT14.out.mono ?_; rintro e w14 ⟨g14, rfl, ho14, hb14⟩; have HF14 := Lib.hid (HFd.out.below hb14); have HQ2 : Hid (OwnI 2 .i64 w14 (w6.alloc (.cells #[.int .i64 s1, (.slice (some ⟨g6, 0, none⟩) l1.length l1.length)] 25)).heap.size (.slice (some ⟨g7, 0, none⟩) l2.length l2.length) l2) := (HF14.out.get 2 rfl).1; have hk14 := And.intro (HF14.out.get 1 rfl : (GB w14 w7.heap.size s2 (.slice (some ⟨g7, 0, none⟩) l2.length l2.length))).c0 (And.intro (HF14.out.get 1 rfl : (GB w14 w7.heap.size s2 (.slice (some ⟨g7, 0, none⟩) l2.length l2.length))).c1 (And.intro (HF14.out.get 8 rfl : (GB w14 (w.heap.size + 1 + 1) s2 (.slice a2 l2.length c2))).c0 ((HF14.out.get 8 rfl : (GB w14 (w.heap.size + 1 + 1) s2 (.slice a2 l2.length c2))).c1)))))
          rename_i hheld
          clear hheld hk14 hk15 ho14 hb14 hb15 HT14 HF14 HFd HQ2 HF13 x0 x1 p0 p1
          obtain ⟨x0, x1, _, _⟩ := HF15.out.get 5 rfl
          go_wp2_with fail
          have HQ0 : Hid (OwnI 2 .i64 w15 w4.heap.size (.slice (some ⟨g5, 0, none⟩) l0.length l0.length) l0) := (HF15.out.get 6 rfl).1
          have HL0 : Hid (Lies (.slice (some ⟨g5, 0, none⟩) l0.length l0.length) w4.heap.size w5.heap.size) := (HF15.out.get 6 rfl).2
          refine (markGrid_any s0 _ l0.length w4.heap.size (1) l0 _ HQ0.out (by omega) (by omega)).mono ?_
          rintro e w16 ⟨rfl, ho, hg⟩
          have HF16 : Hid (St w [(itM (w7.alloc (.cells #[.int .i64 s2, (.slice (some ⟨g7, 0, none⟩) l2.length l2.length)] 25)).heap.size (w8.alloc (.cells #[.int .i64 S, (.slice A2 T.length k2), (.slice D2 L.length d2), .int .i64 C] 45)).heap.size w8.heap.size S C (.slice A2 T.length k2) (.slice D2 L.length d2) T L), (bxG w7.heap.size s2 (.slice (some ⟨g7, 0, none⟩) l2.length l2.length)), (rwI (w6.alloc (.cells #[.int .i64 s1, (.slice (some ⟨g6, 0, none⟩) l1.length l1.length)] 25)).heap.size w7.heap.size (.slice (some ⟨g7, 0, none⟩) l2.length l2.length) l2), (bxG w6.heap.size s1 (.slice (some ⟨g6, 0, none⟩) l1.length l1.length)), (rwI (w5.alloc (.cells #[.int .i64 s0, (.slice (some ⟨g5, 0, none⟩) l0.length l0.length)] 25)).heap.size w6.heap.size (.slice (some ⟨g6, 0, none⟩) l1.length l1.length) l1), (bxG w5.heap.size s0 (.slice (some ⟨g5, 0, none⟩) l0.length l0.length)), (rwI w4.heap.size w5.heap.size (.slice (some ⟨g5, 0, none⟩) l0.length l0.length) (marks (1) l0.length)), (itM w3.heap.size w4.heap.size q1 S C (.slice A1 T.length k1) (.slice D1 L.length d1) T L), (bxG (w.heap.size + 1 + 1) s2 (.slice a2 l2.length c2)), (bxG (w.heap.size + 1) s1 (.slice a1 l1.length c1)), (bxG (w.heap.size) s0 (.slice a0 l0.length c0))] w16) := HF15.out.turn 6 (rwI w4.heap.size w5.heap.size (.slice (some ⟨g5, 0, none⟩) l0.length l0.length) (marks (1) l0.length)) rfl rfl rfl (Only.grown hg HL0.out) ⟨ho, HL0.out⟩
          clear ho hg HQ0 HL0 HF15 x0 x1
          obtain ⟨x0, x1, _, _⟩ := HF16.out.get 3 rfl
          go_wp2_with fail
          have HQ1 : Hid (OwnI 2 .i64 w16 (w5.alloc (.cells #[.int .i64 s0, (.slice (some ⟨g5, 0, none⟩) l0.length l0.length)] 25)).heap.size (.slice (some ⟨g6, 0, none⟩) l1.length l1.length) l1) := (HF16.out.get 4 rfl).1
          have HL1 : Hid (Lies (.slice (some ⟨g6, 0, none⟩) l1.length l1.length) (w5.alloc (.cells #[.int .i64 s0, (.slice (some ⟨g5, 0, none⟩) l0.length l0.length)] 25)).heap.size w6.heap.size) := (HF16.out.get 4 rfl).2
          refine (markGrid_any s1 _ l1.length (w5.alloc (.cells #[.int .i64 s0, (.slice (some ⟨g5, 0, none⟩) l0.length l0.length)] 25)).heap.size (1 + l0.length) l1 _ HQ1.out (by omega) (by omega)).mono ?_
          rintro e w17 ⟨rfl, ho, hg⟩
          have HF17 : Hid (St w [(itM (w7.alloc (.cells #[.int .i64 s2, (.slice (some ⟨g7, 0, none⟩) l2.length l2.length)] 25)).heap.size (w8.alloc (.cells #[.int .i64 S, (.slice A2 T.length k2), (.slice D2 L.length d2), .int .i64 C] 45)).heap.size w8.heap.size S C (.slice A2 T.length k2) (.slice D2 L.length d2) T L), (bxG w7.heap.size s2 (.slice (some ⟨g7, 0, none⟩) l2.length l2.length)), (rwI (w6.alloc (.cells #[.int .i64 s1, (.slice (some ⟨g6, 0, none⟩) l1.length l1.length)] 25)).heap.size w7.heap.size (.slice (some ⟨g7, 0, none⟩) l2.length l2.length) l2), (bxG w6.heap.size s1 (.slice (some ⟨g6, 0, none⟩) l1.length l1.length)), (rwI (w5.alloc (.cells #[.int .i64 s0, (.slice (some ⟨g5, 0, none⟩) l0.length l0.length)] 25)).heap.size w6.heap.size (.slice (some ⟨g6, 0, none⟩) l1.length l1.length) (marks (1 + l0.length) l1.length)), (bxG w5.heap.size s0 (.slice (some ⟨g5, 0, none⟩) l0.length l0.length)), (rwI w4.heap.size w5.heap.size (.slice (some ⟨g5, 0, none⟩) l0.length l0.length) (marks (1) l0.length)), (itM w3.heap.size w4.heap.size q1 S C (.slice A1 T.length k1) (.slice D1 L.length d1) T L), (bxG (w.heap.size + 1 + 1) s2 (.slice a2 l2.length c2)), (bxG (w.heap.size + 1) s1 (.slice a1 l1.length c1)), (bxG (w.heap.size) s0 (.slice a0 l0.length c0))] w17) := HF16.out.turn 4 (rwI (w5.alloc (.cells #[.int .i64 s0, (.slice (some ⟨g5, 0, none⟩) l0.length l0.length)] 25)).heap.size w6.heap.size (.slice (some ⟨g6, 0, none⟩) l1.length l1.length) (marks (1 + l0.length) l1.length)) rfl rfl rfl (Only.grown hg HL1.out) ⟨ho, HL1.out⟩
          clear ho hg HQ1 HL1 HF16 x0 x1
          obtain ⟨x0, x1, _, _⟩ := HF17.out.get 1 rfl
          go_wp2_with fail
          have HQ2 : Hid (OwnI 2 .i64 w17 (w6.alloc (.cells #[.int .i64 s1, (.slice (some ⟨g6, 0, none⟩) l1.length l1.length)] 25)).heap.size (.slice (some ⟨g7, 0, none⟩) l2.length l2.length) l2) := (HF17.out.get 2 rfl).1
          have HL2 : Hid (Lies (.slice (some ⟨g7, 0, none⟩) l2.length l2.length) (w6.alloc (.cells #[.int .i64 s1, (.slice (some ⟨g6, 0, none⟩) l1.length l1.length)] 25)).heap.size w7.heap.size) := (HF17.out.get 2 rfl).2
          refine (markGrid_any s2 _ l2.length (w6.alloc (.cells #[.int .i64 s1, (.slice (some ⟨g6, 0, none⟩) l1.length l1.length)] 25)).heap.size (1 + l0.length + l1.length) l2 _ HQ2.out (by omega) (by omega)).mono ?_
          rintro e w18 ⟨rfl, ho, hg⟩
          have HF18 : Hid (St w [(itM (w7.alloc (.cells #[.int .i64 s2, (.slice (some ⟨g7, 0, none⟩) l2.length l2.length)] 25)).heap.size (w8.alloc (.cells #[.int .i64 S, (.slice A2 T.length k2), (.slice D2 L.length d2), .int .i64 C] 45)).heap.size w8.heap.size S C (.slice A2 T.length k2) (.slice D2 L.length d2) T L), (bxG w7.heap.size s2 (.slice (some ⟨g7, 0, none⟩) l2.length l2.length)), (rwI (w6.alloc (.cells #[.int .i64 s1, (.slice (some ⟨g6, 0, none⟩) l1.length l1.length)] 25)).heap.size w7.heap.size (.slice (some ⟨g7, 0, none⟩) l2.length l2.length) (marks (1 + l0.length + l1.length) l2.length)), (bxG w6.heap.size s1 (.slice (some ⟨g6, 0, none⟩) l1.length l1.length)), (rwI (w5.alloc (.cells #[.int .i64 s0, (.slice (some ⟨g5, 0, none⟩) l0.length l0.length)] 25)).heap.size w6.heap.size (.slice (some ⟨g6, 0, none⟩) l1.length l1.length) (marks (1 + l0.length) l1.length)), (bxG w5.heap.size s0 (.slice (some ⟨g5, 0, none⟩) l0.length l0.length)), (rwI w4.heap.size w5.heap.size (.slice (some ⟨g5, 0, none⟩) l0.length l0.length) (marks (1) l0.length)), (itM w3.heap.size w4.heap.size q1 S C (.slice A1 T.length k1) (.slice D1 L.length d1) T L), (bxG (w.heap.size + 1 + 1) s2 (.slice a2 l2.length c2)), (bxG (w.heap.size + 1) s1 (.slice a1 l1.length c1)), (bxG (w.heap.size) s0 (.slice a0 l0.length c0))] w18) := HF17.out.turn 2 (rwI (w6.alloc (.cells #[.int .i64 s1, (.slice (some ⟨g6, 0, none⟩) l1.length l1.length)] 25)).heap.size w7.heap.size (.slice (some ⟨g7, 0, none⟩) l2.length l2.length) (marks (1 + l0.length + l1.length) l2.length)) rfl rfl rfl (Only.grown hg HL2.out) ⟨ho, HL2.out⟩
          clear ho hg HQ2 HL2 HF17 x0 x1
          have HMm : Hid (MA w18 w3.heap.size w4.heap.size q1 S C (.slice A1 T.length k1) (.slice D1 L.length d1) T L) := HF18.out.get 7 rfl
          have HMg : Hid (MA w18 (w7.alloc (.cells #[.int .i64 s2, (.slice (some ⟨g7, 0, none⟩) l2.length l2.length)] 25)).heap.size (w8.alloc (.cells #[.int .i64 S, (.slice A2 T.length k2), (.slice D2 L.length d2), .int .i64 C] 45)).heap.size w8.heap.size S C (.slice A2 T.length k2) (.slice D2 L.length d2) T L) := HF18.out.get 0 rfl
          obtain ⟨q0, q1, q2, q3, _, _, _, _⟩ := HMm.out.m
          obtain ⟨r0, r1, r2, r3, _, _, _, _⟩ := HMg.out.m
          go_wp2_with fail
          refine (eqMergeOut_any S C A2 A1 k2 k1 D2 D1 d2 d1 T L _ HMg.out.oT.ri HMm.out.oT.ri HMg.out.oC.r HMm.out.oC.r (by omega) (by omega)).mono ?_
          rintro e w19 ⟨rfl, hb19⟩
          have HF19 := Lib.hid (HF18.out.below hb19)
          clear hb19 HF18 HMm HMg q0 q1 q2 q3 r0 r1 r2 r3
          have HMg : Hid (MA w19 (w7.alloc (.cells #[.int .i64 s2, (.slice (some ⟨g7, 0, none⟩) l2.length l2.length)] 25)).heap.size (w8.alloc (.cells #[.int .i64 S, (.slice A2 T.length k2), (.slice D2 L.length d2), .int .i64 C] 45)).heap.size w8.heap.size S C (.slice A2 T.length k2) (.slice D2 L.length d2) T L) := HF19.out.get 0 rfl
          obtain ⟨r0, r1, r2, r3, _, _, _, _⟩ := HMg.out.m
          have hszg : (w8.alloc (.cells #[.int .i64 S, (.slice A2 T.length k2), (.slice D2 L.length d2), .int .i64 C] 45)).heap.size ≤ w19.heap.size := HF19.out.szi 0 rfl
          go_wp2_with fail
          refine (markMergeOut_any S C A2 k2 D2 d2 (w7.alloc (.cells #[.int .i64 s2, (.slice (some ⟨g7, 0, none⟩) l2.length l2.length)] 25)).heap.size (w7.alloc (.cells #[.int .i64 s2, (.slice (some ⟨g7, 0, none⟩) l2.length l2.length)] 25)).heap.size (w8.alloc (.cells #[.int .i64 S, (.slice A2 T.length k2), (.slice D2 L.length d2), .int .i64 C] 45)).heap.size 1 T L _ HMg.out.oT HMg.out.oC HMg.out.ap HMg.out.lT HMg.out.lC hszg (by omega) (by omega) (by omega)).mono ?_
          rintro e w20 ⟨rfl, hoT, hoC, honly, hkeep⟩
          have HF20 : Hid (St w [(itM (w7.alloc (.cells #[.int .i64 s2, (.slice (some ⟨g7, 0, none⟩) l2.length l2.length)] 25)).heap.size (w8.alloc (.cells #[.int .i64 S, (.slice A2 T.length k2), (.slice D2 L.length d2), .int .i64 C] 45)).heap.size w8.heap.size S C (.slice A2 T.length k2) (.slice D2 L.length d2) (marks 1 T.length) (marksCh (1 + T.length) L.length)), (bxG w7.heap.size s2 (.slice (some ⟨g7, 0, none⟩) l2.length l2.length)), (rwI (w6.alloc (.cells #[.int .i64 s1, (.slice (some ⟨g6, 0, none⟩) l1.length l1.length)] 25)).heap.size w7.heap.size (.slice (some ⟨g7, 0, none⟩) l2.length l2.length) (marks (1 + l0.length + l1.length) l2.length)), (bxG w6.heap.size s1 (.slice (some ⟨g6, 0, none⟩) l1.length l1.length)), (rwI (w5.alloc (.cells #[.int .i64 s0, (.slice (some ⟨g5, 0, none⟩) l0.length l0.length)] 25)).heap.size w6.heap.size (.slice (some ⟨g6, 0, none⟩) l1.length l1.length) (marks (1 + l0.length) l1.length)), (bxG w5.heap.size s0 (.slice (some ⟨g5, 0, none⟩) l0.length l0.length)), (rwI w4.heap.size w5.heap.size (.slice (some ⟨g5, 0, none⟩) l0.length l0.length) (marks (1) l0.length)), (itM w3.heap.size w4.heap.size q1 S C (.slice A1 T.length k1) (.slice D1 L.length d1) T L), (bxG (w.heap.size + 1 + 1) s2 (.slice a2 l2.length c2)), (bxG (w.heap.size + 1) s1 (.slice a1 l1.length c1)), (bxG (w.heap.size) s0 (.slice a0 l0.length c0))] w20) := HF19.out.turn 0 (itM (w7.alloc (.cells #[.int .i64 s2, (.slice (some ⟨g7, 0, none⟩) l2.length l2.length)] 25)).heap.size (w8.alloc (.cells #[.int .i64 S, (.slice A2 T.length k2), (.slice D2 L.length d2), .int .i64 C] 45)).heap.size w8.heap.size S C (.slice A2 T.length k2) (.slice D2 L.length d2) (marks 1 T.length) (marksCh (1 + T.length) L.length)) rfl rfl rfl honly (HMg.out.marked (hkeep _ (Nat.lt_of_lt_of_le HMg.out.hq.2 hszg) HMg.out.aT HMg.out.aC) hoT hoC)
          clear hoT hoC honly hkeep hszg HMg HF19 r0 r1 r2 r3
          have HMg : Hid (MA w20 (w7.alloc (.cells #[.int .i64 s2, (.slice (some ⟨g7, 0, none⟩) l2.length l2.length)] 25)).heap.size (w8.alloc (.cells #[.int .i64 S, (.slice A2 T.length k2), (.slice D2 L.length d2), .int .i64 C] 45)).heap.size w8.heap.size S C (.slice A2 T.length k2) (.slice D2 L.length d2) (marks 1 T.length) (marksCh (1 + T.length) L.length)) := HF20.out.get 0 rfl
          obtain ⟨r0, r1, r2, r3, _, _, _, _⟩ := HMg.out.m
          go_wp2_with fail
          refine (heldMergeOut_any S C A2 k2 D2 d2 1 T.length L.length _ HMg.out.oT.ri HMg.out.oC.r (by omega) (by omega) (by omega)).mono ?_
          rintro e w21 ⟨rfl, hb21⟩
          have HF21 := Lib.hid (HF20.out.below hb21)
          clear hb21 HF20 HMg r0 r1 r2 r3
          have HPAR : Hid (∀ wr, Below w21.heap.size w21 wr → wr.cell? ⟨(w.heap.size), 0, none⟩ = some (.int .i64 s0) ∧ wr.cell? ⟨(w.heap.size), 1, none⟩ = some (.slice a0 l0.length c0) ∧ wr.cell? ⟨(w.heap.size + 1), 0, none⟩ = some (.int .i64 s1) ∧ wr.cell? ⟨(w.heap.size + 1), 1, none⟩ = some (.slice a1 l1.length c1) ∧ wr.cell? ⟨(w.heap.size + 1 + 1), 0, none⟩ = some (.int .i64 s2) ∧ wr.cell? ⟨(w.heap.size + 1 + 1), 1, none⟩ = some (.slice a2 l2.length c2)) := by
            intro wr hb
            have hs := HF21.out.below hb
            exact ⟨(hs.get 10 rfl : (GB wr (w.heap.size) s0 (.slice a0 l0.length c0))).c0, (hs.get 10 rfl : (GB wr (w.heap.size) s0 (.slice a0 l0.length c0))).c1, (hs.get 9 rfl : (GB wr (w.heap.size + 1) s1 (.slice a1 l1.length c1))).c0, (hs.get 9 rfl : (GB wr (w.heap.size + 1) s1 (.slice a1 l1.length c1))).c1, (hs.get 8 rfl : (GB wr (w.heap.size + 1 + 1) s2 (.slice a2 l2.length c2))).c0, (hs.get 8 rfl : (GB wr (w.heap.size + 1 + 1) s2 (.slice a2 l2.length c2))).c1⟩
          have HTO0 : Hid (∀ wr, Below w21.heap.size w21 wr → Calls Try.prog 26 #[.agg #[.int .i64 s0, .slice a0 l0.length c0]] wr (ToGridPost wr s0 l0)) := fun wr hb => toGrid_any s0 a0 c0 l0 wr (HR0.out.below' (HF21.out.below hb).bel) (by omega)
          have HTO1 : Hid (∀ wr, Below w21.heap.size w21 wr → Calls Try.prog 26 #[.agg #[.int .i64 s1, .slice a1 l1.length c1]] wr (ToGridPost wr s1 l1)) := fun wr hb => toGrid_any s1 a1 c1 l1 wr (HR1.out.below' (HF21.out.below hb).bel) (by omega)
          have HTO2 : Hid (∀ wr, Below w21.heap.size w21 wr → Calls Try.prog 26 #[.agg #[.int .i64 s2, .slice a2 l2.length c2]] wr (ToGridPost wr s2 l2)) := fun wr hb => toGrid_any s2 a2 c2 l2 wr (HR2.out.below' (HF21.out.below hb).bel) (by omega)
          obtain ⟨p00, p01, _, _⟩ := HF21.out.get 10 rfl
          obtain ⟨p10, p11, _, _⟩ := HF21.out.get 9 rfl
          obtain ⟨p20, p21, _, _⟩ := HF21.out.get 8 rfl
          go_wp2_with fail
          go_cut [16] from 96 to 102 (fun c wx => ∃ (q3 : Nat) (A3 : Option Addr) (k3 : Nat) (D3 : Option Addr) (d3 : Nat), c = .pointer (some ⟨q3, 0, none⟩) ∧ St w [(itM w21.heap.size wx.heap.size q3 S C (.slice A3 T.length k3) (.slice D3 L.length d3) T L), (itM (w7.alloc (.cells #[.int .i64 s2, (.slice (some ⟨g7, 0, none⟩) l2.length l2.length)] 25)).heap.size (w8.alloc (.cells #[.int .i64 S, (.slice A2 T.length k2), (.slice D2 L.length d2), .int .i64 C] 45)).heap.size w8.heap.size S C (.slice A2 T.length k2) (.slice D2 L.length d2) (marks 1 T.length) (marksCh (1 + T.length) L.length)), (bxG w7.heap.size s2 (.slice (some ⟨g7, 0, none⟩) l2.length l2.length)), (rwI (w6.alloc (.cells #[.int .i64 s1, (.slice (some ⟨g6, 0, none⟩) l1.length l1.length)] 25)).heap.size w7.heap.size (.slice (some ⟨g7, 0, none⟩) l2.length l2.length) (marks (1 + l0.length + l1.length) l2.length)), (bxG w6.heap.size s1 (.slice (some ⟨g6, 0, none⟩) l1.length l1.length)), (rwI (w5.alloc (.cells #[.int .i64 s0, (.slice (some ⟨g5, 0, none⟩) l0.length l0.length)] 25)).heap.size w6.heap.size (.slice (some ⟨g6, 0, none⟩) l1.length l1.length) (marks (1 + l0.length) l1.length)), (bxG w5.heap.size s0 (.slice (some ⟨g5, 0, none⟩) l0.length l0.length)), (rwI w4.heap.size w5.heap.size (.slice (some ⟨g5, 0, none⟩) l0.length l0.length) (marks (1) l0.length)), (itM w3.heap.size w4.heap.size q1 S C (.slice A1 T.length k1) (.slice D1 L.length d1) T L), (bxG (w.heap.size + 1 + 1) s2 (.slice a2 l2.length c2)), (bxG (w.heap.size + 1) s1 (.slice a1 l1.length c1)), (bxG (w.heap.size) s0 (.slice a0 l0.length c0))] wx)
          case first =>
            clear p00 p01 p10 p11 p20 p21
            have hB := (Below.refl w21.heap.size w21).drew
            have hZ := (ZM.made (Below.refl w21.heap.size w21)).drew
            have hk := HPAR.out _ hB
            go_region_held3 (fun w' => w'.cell? ⟨(w.heap.size), 0, none⟩ = some (.int .i64 s0) ∧ w'.cell? ⟨(w.heap.size), 1, none⟩ = some (.slice a0 l0.length c0) ∧ w'.cell? ⟨(w.heap.size + 1), 0, none⟩ = some (.int .i64 s1) ∧ w'.cell? ⟨(w.heap.size + 1), 1, none⟩ = some (.slice a1 l1.length c1) ∧ w'.cell? ⟨(w.heap.size + 1 + 1), 0, none⟩ = some (.int .i64 s2) ∧ w'.cell? ⟨(w.heap.size + 1 + 1), 1, none⟩ = some (.slice a2 l2.length c2))
              (first
                | (with_reducible exact hk)
                | exact HPAR.out _ hZ.bel
                | exact HPAR.out _ (ZM.made B0).bel
                | exact HPAR.out _ (ZM.made B1).bel
                | exact HPAR.out _ (ZM.made B2).bel
                | exact HPAR.out _ (Br.alloc Br.size _)
                | exact HPAR.out _ (Zr.fill_bel _ _ _ _))
              (first
                | (go_at_call 23; have _c := B2; clear _c; refine (hI _ _ _ _ _ _ v2 (o2_0).ri (o2_1).ri (o2_2).ri).mono ?_; rintro e vr ⟨A3, k3, D3, d3, rfl, hoT, hoC, hap, hb⟩; have y1 := B2.size; have y2 := hb.size; have Br := B2.trans (hb.mono B2.size); have hk := HPAR.out _ Br; clear hb)
                | (go_at_call 23; have _c := Z2; clear _c; refine (hI _ _ _ _ _ _ v2 (o2_0).ri (o2_1).ri (o2_2).ri).mono ?_; rintro e vr ⟨A3, k3, D3, d3, rfl, hoT, hoC, hap, hb⟩; have qz := Z2.hq.2; have hWz := Z2.bel.size; have Zr := Z2.below hb; have hk := HPAR.out _ Zr.bel; obtain ⟨s0, s1, s2, s3, t0, t1, t2, t3⟩ := Zr.m; have hzr := Zr.hq.2; clear hb)
                | (go_at_call 23; have _c := B2; clear _c; refine (hI _ _ _ _ _ _ _ (o2_0.alloc _).ri (o2_1.alloc _).ri (o2_2.alloc _).ri).mono ?_; rintro e vr ⟨A3, k3, D3, d3, rfl, hoT, hoC, hap, hb⟩; have qz := (ZM.made B2).hq.2; have hWz := (ZM.made B2).bel.size; have Zr := (ZM.made B2).below hb; have hk := HPAR.out _ Zr.bel; obtain ⟨s0, s1, s2, s3, t0, t1, t2, t3⟩ := Zr.m; have hzr := Zr.hq.2; clear hb)
                | (go_at_call 26; refine (HTO2.out v1 (by with_reducible exact B1)).mono ?_; rintro e v2 ⟨gv2, rfl, ho, hb⟩; have B2 := B1.trans (hb.mono B1.size); have hk := HPAR.out _ B2; have o2_0 := (o1_0).keep hb; have o2_1 := (o1_1).keep hb; have o2_2 := ho; clear ho hb)
                | (go_at_call 26; refine (HTO2.out v1 (by with_reducible exact Z1.bel)).mono ?_; rintro e v2 ⟨gv2, rfl, ho, hb⟩; have Z2 := Z1.below hb; have hk := HPAR.out _ Z2.bel; have o2_0 := (o1_0).keep hb; have o2_1 := (o1_1).keep hb; have o2_2 := ho; clear ho hb)
                | (have _c := B1; clear _c; go_at_call 26; refine (HTO2.out _ (by with_reducible exact (ZM.made B1).bel)).mono ?_; rintro e v2 ⟨gv2, rfl, ho, hb⟩; have Z2 := (ZM.made B1).below hb; have hk := HPAR.out _ Z2.bel; have o2_0 := (o1_0.alloc _).keep hb; have o2_1 := (o1_1.alloc _).keep hb; have o2_2 := ho; clear ho hb)
                | (go_at_call 26; refine (HTO1.out v0 (by with_reducible exact B0)).mono ?_; rintro e v1 ⟨gv1, rfl, ho, hb⟩; have B1 := B0.trans (hb.mono B0.size); have hk := HPAR.out _ B1; have o1_0 := (o0_0).keep hb; have o1_1 := ho; clear ho hb)
                | (go_at_call 26; refine (HTO1.out v0 (by with_reducible exact Z0.bel)).mono ?_; rintro e v1 ⟨gv1, rfl, ho, hb⟩; have Z1 := Z0.below hb; have hk := HPAR.out _ Z1.bel; have o1_0 := (o0_0).keep hb; have o1_1 := ho; clear ho hb)
                | (have _c := B0; clear _c; go_at_call 26; refine (HTO1.out _ (by with_reducible exact (ZM.made B0).bel)).mono ?_; rintro e v1 ⟨gv1, rfl, ho, hb⟩; have Z1 := (ZM.made B0).below hb; have hk := HPAR.out _ Z1.bel; have o1_0 := (o0_0.alloc _).keep hb; have o1_1 := ho; clear ho hb)
                | (go_at_call 26; refine (HTO0.out _ (by with_reducible exact hB)).mono ?_; rintro e v0 ⟨gv0, rfl, ho, hb⟩; have B0 := hB.trans (hb.mono hB.size); have o0_0 := ho; have hk := HPAR.out _ B0; clear ho hb)
                | (go_at_call 26; refine (HTO0.out _ (by with_reducible exact hZ.bel)).mono ?_; rintro e v0 ⟨gv0, rfl, ho, hb⟩; have Z0 := hZ.below hb; have o0_0 := ho; have hk := HPAR.out _ Z0.bel; clear ho hb))
            all_goals
              clear hk
              go_wp2_with fail
              go_meet
              first
                | exact ⟨_, A3, k3, D3, d3, rfl, HF21.out.push (Br.alloc Br.size _) (itM w21.heap.size _ _ S C (.slice A3 T.length k3) (.slice D3 L.length d3) T L) (Nat.le_refl _) (Nat.le_refl _) (MA.new hoT hoC hap y1 y2)⟩
                | exact ⟨_, A3, k3, D3, d3, rfl, HF21.out.push (Zr.fill_bel S C _ _) (itM w21.heap.size _ _ S C (.slice A3 T.length k3) (.slice D3 L.length d3) T L) (Nat.le_refl _) (Nat.le_refl _) (ZM.fill Zr qz hWz hoT hoC hap)⟩
          case rest =>
            obtain ⟨q3, A3, k3, D3, d3, rfl, hst⟩ := hcut
            rename_i hcutu3
            have HF22 := Lib.hid hst
            generalize wc = w22 at *
            clear hst HPAR HTO0 HTO1 HTO2 p00 p01 p10 p11 p20 p21 HF21
            have HMm : Hid (MA w22 w3.heap.size w4.heap.size q1 S C (.slice A1 T.length k1) (.slice D1 L.length d1) T L) := HF22.out.get 8 rfl
            have HMg : Hid (MA w22 w21.heap.size w22.heap.size q3 S C (.slice A3 T.length k3) (.slice D3 L.length d3) T L) := HF22.out.get 0 rfl
            obtain ⟨q0, q1, q2, q3, _, _, _, _⟩ := HMm.out.m
            obtain ⟨r0, r1, r2, r3, _, _, _, _⟩ := HMg.out.m
            go_wp2_with fail
            refine (eqMergeOut_any S C A3 A1 k3 k1 D3 D1 d3 d1 T L _ HMg.out.oT.ri HMm.out.oT.ri HMg.out.oC.r HMm.out.oC.r (by omega) (by omega)).mono ?_
            rintro e w23 ⟨rfl, hb23⟩
            have HF23 := Lib.hid (HF22.out.below hb23)
            clear hb23 HF22 HMm HMg q0 q1 q2 q3 r0 r1 r2 r3
            have HMg : Hid (MA w23 (w7.alloc (.cells #[.int .i64 s2, (.slice (some ⟨g7, 0, none⟩) l2.length l2.length)] 25)).heap.size (w8.alloc (.cells #[.int .i64 S, (.slice A2 T.length k2), (.slice D2 L.length d2), .int .i64 C] 45)).heap.size w8.heap.size S C (.slice A2 T.length k2) (.slice D2 L.length d2) (marks 1 T.length) (marksCh (1 + T.length) L.length)) := HF23.out.get 1 rfl
            obtain ⟨r0, r1, r2, r3, _, _, _, _⟩ := HMg.out.m
            go_wp2_with fail
            refine (heldMergeOut_any S C A2 k2 D2 d2 1 T.length L.length _ HMg.out.oT.ri HMg.out.oC.r (by omega) (by omega) (by omega)).mono ?_
            rintro e w24 ⟨rfl, hb24⟩
            have HF24 := Lib.hid (HF23.out.below hb24)
            clear hb24 HF23 HMg r0 r1 r2 r3
            go_wp2
            go_ret
            exact ⟨rfl, HF24.out.bel⟩
      · rw [if_neg hl2] at hsz2
        go_enter Try.func8, Try.ntmps8
        go_wp2_with fail
        refine (hsz0 _).mono ?_
        rintro e w1 ⟨rfl, hb1⟩
        have HF1 := Lib.hid (HF0.out.below hb1)
        clear hb1 HF0 
        obtain ⟨p10, p11, _, _⟩ := HF1.out.get 1 rfl
        go_wp2_with fail
        refine (hsz1 _).mono ?_
        rintro e w2 ⟨rfl, hb2⟩
        have HF2 := Lib.hid (HF1.out.below hb2)
        clear hb2 HF1 p10 p11
        obtain ⟨p20, p21, _, _⟩ := HF2.out.get 0 rfl
        go_wp2_with fail
        refine (hsz2 _).mono ?_
        rintro e w3 ⟨rfl, hb3⟩
        have HF3 := Lib.hid (HF2.out.below hb3)
        clear hb3 HF2 p20 p21
        go_wp2
        go_ret
        exact ⟨rfl, HF3.out.bel⟩
    · rw [if_neg hl1] at hsz1
      go_enter Try.func8, Try.ntmps8
      go_wp2_with fail
      refine (hsz0 _).mono ?_
      rintro e w1 ⟨rfl, hb1⟩
      have HF1 := Lib.hid (HF0.out.below hb1)
      clear hb1 HF0 
      obtain ⟨p10, p11, _, _⟩ := HF1.out.get 1 rfl
      go_wp2_with fail
      refine (hsz1 _).mono ?_
      rintro e w2 ⟨rfl, hb2⟩
      have HF2 := Lib.hid (HF1.out.below hb2)
      clear hb2 HF1 p10 p11
      go_wp2
      go_ret
      exact ⟨rfl, HF2.out.bel⟩
  · rw [if_neg hl0] at hsz0
    go_enter Try.func8, Try.ntmps8
    go_wp2_with fail
    refine (hsz0 _).mono ?_
    rintro e w1 ⟨rfl, hb1⟩
    have HF1 := Lib.hid (HF0.out.below hb1)
    clear hb1 HF0 
    go_wp2
    go_ret
    exact ⟨rfl, HF1.out.bel⟩

set_option maxRecDepth 100000 in
theorem lifted (os : Os) (started : os.Started) (H : Type) (enc : TypeId × Value → H) :
    ReturnsInHanded {} Try.checked os 8 .any (Rows.fnExactMergeSpec.pre6 enc Try.prog Try.f8 Rows.fnExactMergeRow.domain false) (Rows.fnExactMergeSpec.post enc Try.prog Try.f8 false true false false) := by
  refine returnsInHanded_of_change (C := Try.checked) own started (by kernel_rfl) Try.func8
    (ChangeSpec.witness6 (enc := enc) (C := Try.checked) false ⟨#[], #[.agg #[.int .i64 0, .slice none 0 0], .agg #[.int .i64 0, .slice none 0 0], .agg #[.int .i64 0, .slice none 0 0]], []⟩ 8 (by kernel_rfl) (by kernel_rfl) (by kernel_rfl) (by kernel_rfl)) ?_
  intro W base args ds gs before hval0 hW hcnd _
  have hval : ∀ (j : Nat) t v, Try.f8.params[j]? = some t → args[j]? = some v → Value.okWide Try.prog W .any base t v := hval0
  have hW' := hW
  obtain ⟨p, q, hA0, hV, rfl, hfz, hnd⟩ := hW
  have hA : DataW.TrodAll enc Try.prog W 0 (fun _ => true) true Try.f8.params.toList args.toList ds p := hA0
  rw [Try.params8] at hA hval
  obtain ⟨v0, vs0, d0, ds0, p0, q0, hargs, rfl, rfl, h0, r0⟩ := trodAll_cons hA
  obtain ⟨v1, vs1, d1, ds1, p1, q1, rfl, rfl, rfl, h1, r1⟩ := trodAll_cons r0
  obtain ⟨v2, vs2, d2, ds2, p2, q2, rfl, rfl, rfl, h2, r2⟩ := trodAll_cons r1
  obtain ⟨rfl, rfl, rfl⟩ := trodAll_nil r2
  obtain rfl : args = #[v0, v1, v2] := by cases args; simp_all
  obtain ⟨rfl, rfl⟩ := trodVars_none hV
  have k0 := h0
  have lt0 : ∀ x ∈ p0, x.block < W.heap.size := by obtain ⟨m, hm⟩ := k0; exact DataW.trod_lt m _ _ _ hm
  obtain ⟨side0, a0, cap0, z0, rfl, w0⟩ := open_grid (hval 0 48 v0 rfl rfl) h0
  have k1 := h1
  have lt1 : ∀ x ∈ p1, x.block < W.heap.size := by obtain ⟨m, hm⟩ := k1; exact DataW.trod_lt m _ _ _ hm
  obtain ⟨side1, a1, cap1, z1, rfl, w1⟩ := open_grid (hval 1 48 v1 rfl rfl) h1
  have k2 := h2
  have lt2 : ∀ x ∈ p2, x.block < W.heap.size := by obtain ⟨m, hm⟩ := k2; exact DataW.trod_lt m _ _ _ hm
  obtain ⟨side2, a2, cap2, z2, rfl, w2⟩ := open_grid (hval 2 48 v2 rfl rfl) h2
  clear hA0 hval0
  refine (walk side0 a0 cap0 z0 side1 a1 cap1 z1 side2 a2 cap2 z2 W w0 w1 w2).mono fun e W' ⟨he, bel⟩ => ?_
  subst he
  exact ⟨_, rfl, _, _, _, [], _, [], hW', trodAll_mk1 (shut_bool Try.underlying4 _), (trodAll_cons_mk (Below.trod laidOut (by kernel_rfl) (of_decide_eq_true (by kernel_rfl)) k0 bel lt0) (trodAll_cons_mk (Below.trod laidOut (by kernel_rfl) (of_decide_eq_true (by kernel_rfl)) k1 bel lt1) (trodAll_cons_mk (Below.trod laidOut (by kernel_rfl) (of_decide_eq_true (by kernel_rfl)) k2 bel lt2) trodAll_mk0))), rfl, bel.frame _, fun h => by cases h⟩

theorem over : Rows.fnExactMergeRow.holds Try.pinned (OpenSpec.ofChange Rows.fnExactMergeSpec) :=
  OpenClaim.holds_of_wide 8 Try.f8 rfl rfl rfl rfl rfl rfl rfl ⟨rfl, rfl, rfl, rfl, rfl⟩ rfl rfl rfl rfl rfl (by kernel_rfl) Try.func8 (by kernel_rfl)
    (of_decide_eq_true (by kernel_rfl)) (by unfold Func.isWrapper; first | (rw [if_pos (by decide +kernel)]; kernel_rfl) | (rw [if_neg (by decide +kernel)]; exact ⟨rfl, rfl⟩))
    (fun os started H enc _ => lifted os started H enc)

end Go.Proofs.Ytjcgelkeegepnaa.fnExactMerge
namespace Go.Proofs.Ytjcgelkeegepnaa
/-- The statement. -/
theorem fnExactMerge_holds : Rows.FnExactMergeSaid := fnExactMerge.over
end Go.Proofs.Ytjcgelkeegepnaa
