/- The model's Merge. -/
import Derived.Test.YthhadbojepcdjaaMgL
import Derived.Deep.RegionHeld3
namespace Go.Proofs.Ythhadbojepcdjaa
open Go.RowKit
set_option linter.unusedVariables false
set_option linter.unusedSimpArgs false

theorem mergeOut_bad {so sa sb : Int} {lo la lb : List Int} (h : threeRight so lo sa la sb lb = false) : mergeOut so lo sa la sb lb = (1, 0, [], []) := by rw [mergeOut, h]; rfl
theorem mergeOut_good {so : Int} {lo la lb : List Int} (h : threeRight so lo so la so lb = true) : mergeOut so lo so la so lb = (0, so, mergeTo lo la lb lo.length, clashTo so lo la lb lo.length) := by rw [mergeOut, h]; rfl

set_option maxRecDepth 100000 in
set_option maxHeartbeats 2000000 in
theorem mMerge_any (so : Int) (Ao : Option Addr) (co : Nat) (lo : List Int) (sa : Int) (A : Option Addr) (c : Nat) (la : List Int) (sb : Int) (A' : Option Addr) (c' : Nat) (lb : List Int) (w : World) (ho : RI w w.heap.size Ao lo) (h : RI w w.heap.size A la) (h' : RI w w.heap.size A' lb) (hlo : lo.length ≤ 1000000000) (hl : la.length ≤ 1000000000) (hl' : lb.length ≤ 1000000000) :
    Calls Try.prog 20 #[.agg #[.int .i64 so, .slice Ao lo.length co], .agg #[.int .i64 sa, .slice A la.length c], .agg #[.int .i64 sb, .slice A' lb.length c']] w fun e w' => MOut w w' (mergeOut so lo sa la sb lb) e := by
  obtain ⟨i0, hi, hz0, hz1, hz2⟩ := info_parts Try.infoCh
  have HO := Lib.hid ho
  have H := Lib.hid h
  have H' := Lib.hid h'
  clear ho h h'
  have HM0 := Lib.hid (M3.made w so (.slice Ao lo.length co) sa (.slice A la.length c) sb (.slice A' lb.length c'))
  have hro := fun w h => mRight_any so Ao co lo w h hlo
  have hra := fun w h => mRight_any sa A c la w h hl
  have hrb := fun w h => mRight_any sb A' c' lb w h hl'
  cases h1 : gridRight so lo
  · rw [h1] at hro
    have HE := Lib.hid (mergeOut_bad (so := so) (lo := lo) (sa := sa) (la := la) (sb := sb) (lb := lb) (by simp [threeRight, h1]))
    clear h1
    go_enter Try.func20, Try.ntmps20
    go_wp2_with fail
    refine (hro _ (HO.out.below' HM0.out.bel)).mono ?_
    rintro e w1 ⟨rfl, hb1⟩
    have HM1 := Lib.hid (HM0.out.below hb1)
    clear hb1 HM0
    obtain ⟨⟨o0, o1, _, _⟩, ⟨a0, a1, _, _⟩, ⟨b0, b1, _, _⟩, ⟨r0, r1, r2, r3, f0, f1, f2, f3⟩, _, _⟩ := HM1.out
    go_wp2
    refine bodyPost_ret (v := .agg #[.int .i64 0, .slice none 0 0, .slice none 0 0, .int .i64 1]) (by simp [results, Try.results20, go_sem, r0, r1, r2, r3]) rfl ?_
    rw [HE.out]
    exact ⟨none, 0, none, 0, rfl, OwnI.nil _ _ _ _, OwnCh.nil _ _, by simp [Value.ownBlock], (((HM1.out.bel.setCell (by simp; omega) _).setCell (by simp; omega) _).setCell (by simp; omega) _).setCell (by simp; omega) _⟩
  · rw [h1] at hro
    cases h2 : gridRight sa la
    · rw [h2] at hra
      have HE := Lib.hid (mergeOut_bad (so := so) (lo := lo) (sa := sa) (la := la) (sb := sb) (lb := lb) (by simp [threeRight, h2]))
      clear h1 h2
      go_enter Try.func20, Try.ntmps20
      go_wp2_with fail
      refine (hro _ (HO.out.below' HM0.out.bel)).mono ?_
      rintro e w1 ⟨rfl, hb1⟩
      have HM1 := Lib.hid (HM0.out.below hb1)
      clear hb1 HM0
      obtain ⟨⟨o0, o1, _, _⟩, ⟨a0, a1, _, _⟩, ⟨b0, b1, _, _⟩, _, _, _⟩ := HM1.out
      go_wp2_with fail
      refine (hra _ (H.out.below' HM1.out.bel)).mono ?_
      rintro e w2 ⟨rfl, hb2⟩
      have HM2 := Lib.hid (HM1.out.below hb2)
      clear hb2 HM1 o0 o1 a0 a1 b0 b1
      obtain ⟨⟨o0, o1, _, _⟩, ⟨a0, a1, _, _⟩, ⟨b0, b1, _, _⟩, ⟨r0, r1, r2, r3, f0, f1, f2, f3⟩, _, _⟩ := HM2.out
      go_wp2
      refine bodyPost_ret (v := .agg #[.int .i64 0, .slice none 0 0, .slice none 0 0, .int .i64 1]) (by simp [results, Try.results20, go_sem, r0, r1, r2, r3]) rfl ?_
      rw [HE.out]
      exact ⟨none, 0, none, 0, rfl, OwnI.nil _ _ _ _, OwnCh.nil _ _, by simp [Value.ownBlock], (((HM2.out.bel.setCell (by simp; omega) _).setCell (by simp; omega) _).setCell (by simp; omega) _).setCell (by simp; omega) _⟩
    · rw [h2] at hra
      cases h3 : gridRight sb lb
      · rw [h3] at hrb
        have HE := Lib.hid (mergeOut_bad (so := so) (lo := lo) (sa := sa) (la := la) (sb := sb) (lb := lb) (by simp [threeRight, h3]))
        clear h1 h2 h3
        go_enter Try.func20, Try.ntmps20
        go_wp2_with fail
        refine (hro _ (HO.out.below' HM0.out.bel)).mono ?_
        rintro e w1 ⟨rfl, hb1⟩
        have HM1 := Lib.hid (HM0.out.below hb1)
        clear hb1 HM0
        obtain ⟨⟨o0, o1, _, _⟩, ⟨a0, a1, _, _⟩, ⟨b0, b1, _, _⟩, _, _, _⟩ := HM1.out
        go_wp2_with fail
        refine (hra _ (H.out.below' HM1.out.bel)).mono ?_
        rintro e w2 ⟨rfl, hb2⟩
        have HM2 := Lib.hid (HM1.out.below hb2)
        clear hb2 HM1 o0 o1 a0 a1 b0 b1
        obtain ⟨⟨o0, o1, _, _⟩, ⟨a0, a1, _, _⟩, ⟨b0, b1, _, _⟩, _, _, _⟩ := HM2.out
        go_wp2_with fail
        refine (hrb _ (H'.out.below' HM2.out.bel)).mono ?_
        rintro e w3 ⟨rfl, hb3⟩
        have HM3 := Lib.hid (HM2.out.below hb3)
        clear hb3 HM2 o0 o1 a0 a1 b0 b1
        obtain ⟨⟨o0, o1, _, _⟩, ⟨a0, a1, _, _⟩, ⟨b0, b1, _, _⟩, ⟨r0, r1, r2, r3, f0, f1, f2, f3⟩, _, _⟩ := HM3.out
        go_wp2
        refine bodyPost_ret (v := .agg #[.int .i64 0, .slice none 0 0, .slice none 0 0, .int .i64 1]) (by simp [results, Try.results20, go_sem, r0, r1, r2, r3]) rfl ?_
        rw [HE.out]
        exact ⟨none, 0, none, 0, rfl, OwnI.nil _ _ _ _, OwnCh.nil _ _, by simp [Value.ownBlock], (((HM3.out.bel.setCell (by simp; omega) _).setCell (by simp; omega) _).setCell (by simp; omega) _).setCell (by simp; omega) _⟩
      · rw [h3] at hrb
        by_cases e1 : sa = so
        · subst e1
          by_cases e2 : sb = sa
          · subst e2
            have HE := Lib.hid (mergeOut_good (so := sb) (lo := lo) (la := la) (lb := lb) (by simp [threeRight, h1, h2, h3]))
            have h64 := right_len h2
            obtain ⟨hs1, hs8⟩ := side_bound (right_parts h2).1
            have HLO : Hid (lo.length = la.length) := by show _ = _; have q1 := (right_parts h1).2.1; have q2 := (right_parts h2).2.1; omega
            have HLB : Hid (lb.length = la.length) := by show _ = _; have q1 := (right_parts h3).2.1; have q2 := (right_parts h2).2.1; omega
            have hl0 : 0 < la.length := by have q2 := (right_parts h2).2.1; have : 1 ≤ sb * sb := (by rcases (sideOk_iff sb).1 (right_parts h2).1 with rfl | rfl | rfl | rfl <;> decide); omega
            have hne : ¬ sb = 0 := by omega
            clear h1 h2 h3
            go_enter Try.func20, Try.ntmps20
            go_wp2_with fail
            refine (hro _ (HO.out.below' HM0.out.bel)).mono ?_
            rintro e w1 ⟨rfl, hb1⟩
            have HM1 := Lib.hid (HM0.out.below hb1)
            clear hb1 HM0
            obtain ⟨⟨o0, o1, _, _⟩, ⟨a0, a1, _, _⟩, ⟨b0, b1, _, _⟩, _, _, _⟩ := HM1.out
            go_wp2_with fail
            refine (hra _ (H.out.below' HM1.out.bel)).mono ?_
            rintro e w2 ⟨rfl, hb2⟩
            have HM2 := Lib.hid (HM1.out.below hb2)
            clear hb2 HM1 o0 o1 a0 a1 b0 b1
            obtain ⟨⟨o0, o1, _, _⟩, ⟨a0, a1, _, _⟩, ⟨b0, b1, _, _⟩, _, _, _⟩ := HM2.out
            go_wp2_with fail
            refine (hrb _ (H'.out.below' HM2.out.bel)).mono ?_
            rintro e w3 ⟨rfl, hb3⟩
            have HM3 := Lib.hid (HM2.out.below hb3)
            clear hb3 HM2 o0 o1 a0 a1 b0 b1
            obtain ⟨⟨o0, o1, _, _⟩, ⟨a0, a1, _, _⟩, ⟨b0, b1, _, _⟩, _, _, _⟩ := HM3.out
            go_wp2_with fail
            refine (mCopy_any sb A c la _ (H.out.below' HM3.out.bel) (by omega) hl0).mono ?_
            rintro e w4 ⟨A2, c2, rfl, ho4, hb4⟩
            obtain ⟨g, rfl, hg1, hg2, _⟩ := ho4.at_ hl0
            have hba : Below w4.heap.size w4 (w4.alloc (.cells #[.int .i64 sb, .slice (some ⟨g, 0, none⟩) la.length c2, .slice none 0 0, .int .i64 0] 45)) := (Below.refl _ _).alloc (Nat.le_refl _) _
            have HI0 : Hid (MI w sb (.slice Ao lo.length co) sb (.slice A la.length c) sb (.slice A' lb.length c') w3.heap.size w4.heap.size sb (.slice (some ⟨g, 0, none⟩) la.length c2) (.slice none 0 0) la [] (w4.alloc (.cells #[.int .i64 sb, .slice (some ⟨g, 0, none⟩) la.length c2, .slice none 0 0, .int .i64 0] 45))) :=
              ⟨(HM3.out.below hb4).below hba, MB.made _ _ _ _ _ _, ho4.alloc _, OwnCh.nil _ _, ⟨HM3.out.siz, hb4.size, by simp⟩, by simp [Value.ownBlock]; omega, by simp [Value.ownBlock], by simp [Value.ownBlock]⟩
            clear hb4 ho4 hba HM3 o0 o1 a0 a1 b0 b1
            go_wp2
            generalize w4.alloc (.cells #[.int .i64 sb, .slice (some ⟨g, 0, none⟩) la.length c2, .slice none 0 0, .int .i64 0] 45) = w5 at *
            generalize hqq : w4.heap.size = q at *
            generalize hBB : w3.heap.size = B at *
            clear hqq hBB hg1 hg2
            go_loopw [8] (fun i wr => ∃ (k : Nat) (A3 : Option Addr) (c3 : Nat), i = .int .i64 k ∧ k ≤ la.length ∧ MI w sb (.slice Ao lo.length co) sb (.slice A la.length c) sb (.slice A' lb.length c') B q sb (.slice (some ⟨g, 0, none⟩) la.length c2) (.slice A3 (clashTo sb lo la lb k).length c3) (mergeTo lo la lb k ++ la.drop k) (clashTo sb lo la lb k) wr) (fun i _ => la.length - (intOf i).toNat)
            case atStart => exact ⟨0, none, 0, rfl, Nat.zero_le _, HI0.out⟩
            case round =>
              obtain ⟨k, A3, c3, rfl, hk, hi'⟩ := hrel
              have HI := Lib.hid hi'
              clear HI0 hi'
              obtain ⟨⟨o0, o1, _, _⟩, ⟨a0, a1, _, _⟩, ⟨b0, b1, _, _⟩, _, _, _⟩ := HI.out.three
              have hle : (clashTo sb lo la lb k).length ≤ 1000000 := by have := clashTo_len sb lo la lb k; omega
              by_cases hlt : k < la.length
              · obtain ⟨b, off, rfl, hbl, hc⟩ := H.out.at_ hlt
                have hlto : k < lo.length := by rw [HLO.out]; exact hlt
                have hltb : k < lb.length := by rw [HLB.out]; exact hlt
                obtain ⟨bo, offo, rfl, hblo, hco⟩ := HO.out.at_ hlto
                obtain ⟨b', off', rfl, hbl', hc'⟩ := H'.out.at_ hltb
                have HS : Hid (clashTo sb lo la lb (k + 1) = clashTo sb lo la lb k ++ clashAt sb lo la lb k) := rfl
                have HCA : Hid (clashAt sb lo la lb k = if mClash lo[k] la[k] lb[k] then [⟨(k : Int) % sb, (k : Int) / sb, la[k], lb[k]⟩] else []) := by show _ = _; unfold clashAt; rw [getD_at hlt, getD_at hlto, getD_at hltb]
                have HMA : Hid (mergeAt lo la lb k = mTile lo[k] la[k] lb[k]) := by show _ = _; unfold mergeAt; rw [getD_at hlt, getD_at hlto, getD_at hltb]
                have HKP := Lib.hid (merge_keep lo la lb k hlt)
                have HST := Lib.hid (merge_set lo la lb k hlt)
                have HLT : Hid (k < (mergeTo lo la lb k ++ la.drop k).length) := by show _ < _; rw [List.length_append, mergeTo_len, List.length_drop]; omega
                generalize lo[k] = x at *
                generalize la[k] = y at *
                generalize lb[k] = z at *
                have HC := Lib.hid hc
                have HCO := Lib.hid hco
                have HC' := Lib.hid hc'
                have hk1 : wr.cell? ⟨b, off + k, none⟩ = some (.int .i64 y) := (HI.out.bel.cell (p := ⟨b, off + k, none⟩) hbl).trans hc
                have hk0 : wr.cell? ⟨bo, offo + k, none⟩ = some (.int .i64 x) := (HI.out.bel.cell (p := ⟨bo, offo + k, none⟩) hblo).trans hco
                have hk2 : wr.cell? ⟨b', off' + k, none⟩ = some (.int .i64 z) := (HI.out.bel.cell (p := ⟨b', off' + k, none⟩) hbl').trans hc'
                have hi1 : (k : Int) < la.length := by omega
                have hi0 : (k : Int) < lo.length := by omega
                have hi2 : (k : Int) < lb.length := by omega
                clear hc hco hc' hlto hltb
                by_cases ezx : z = x
                · have e1 : clashTo sb lo la lb (k + 1) = clashTo sb lo la lb k := by rw [HS.out, HCA.out]; simp [mClash, ezx]
                  have e2 : mergeTo lo la lb k ++ la.drop k = mergeTo lo la lb (k + 1) ++ la.drop (k + 1) := HKP.out (by rw [HMA.out]; simp [mTile, ezx])
                  have HE1 := Lib.hid e1
                  have HE2 := Lib.hid e2
                  clear e1 e2
                  subst ezx
                  go_wp2_with fail
                  go_quiet (fail)
                  go_wp2
                  go_roundw
                  case rel => exact ⟨k + 1, A3, c3, by go_num, by omega, by rw [HE1.out, ← HE2.out]; exact HI.out.below (below_drewN _ _ _)⟩
                  case measure => simp [intOf]; omega
                · have hzx : (z == x) = false := by simpa using ezx
                  by_cases eyz : y = z
                  · have e1 : clashTo sb lo la lb (k + 1) = clashTo sb lo la lb k := by rw [HS.out, HCA.out]; simp [mClash, eyz]
                    have e2 : mergeTo lo la lb k ++ la.drop k = mergeTo lo la lb (k + 1) ++ la.drop (k + 1) := HKP.out (by rw [HMA.out]; simp [mTile, eyz])
                    have HE1 := Lib.hid e1
                    have HE2 := Lib.hid e2
                    clear e1 e2
                    subst eyz
                    go_wp2_with fail
                    go_quiet (fail)
                    go_wp2
                    go_roundw
                    case rel => exact ⟨k + 1, A3, c3, by go_num, by omega, by rw [HE1.out, ← HE2.out]; exact HI.out.below (below_drewN _ _ _)⟩
                    case measure => simp [intOf]; omega
                  · have hyz : (y == z) = false := by simpa using eyz
                    by_cases eyx : y = x
                    · have e1 : clashTo sb lo la lb (k + 1) = clashTo sb lo la lb k := by rw [HS.out, HCA.out]; simp [mClash, eyx]
                      have e2 : (mergeTo lo la lb k ++ la.drop k).set k z = mergeTo lo la lb (k + 1) ++ la.drop (k + 1) := by
                        rw [← HST.out, HMA.out, mTile, if_neg (by simp [ezx, eyz]), if_pos eyx]
                      have HE1 := Lib.hid e1
                      have HE2 := Lib.hid e2
                      clear e1 e2
                      subst eyx
                      go_wp2_with fail
                      go_quiet (fail)
                      have HI1 := Lib.hid (HI.out.below (below_drewN _ wr nq))
                      clear o0 o1 a0 a1 b0 b1 hk0 hk1 hk2 HI
                      generalize wr.drewN nq = w6 at *
                      obtain ⟨⟨o0, o1, _, _⟩, ⟨a0, a1, _, _⟩, ⟨b0, b1, _, _⟩, _, _, _⟩ := HI1.out.three
                      obtain ⟨m0, m1, m2, m3, _, _, mf2, _⟩ := HI1.out.m
                      have hk1 : w6.cell? ⟨b, off + k, none⟩ = some (.int .i64 y) := (HI1.out.bel.cell (p := ⟨b, off + k, none⟩) hbl).trans HC.out
                      have hk0 : w6.cell? ⟨bo, offo + k, none⟩ = some (.int .i64 y) := (HI1.out.bel.cell (p := ⟨bo, offo + k, none⟩) hblo).trans HCO.out
                      have hk2 : w6.cell? ⟨b', off' + k, none⟩ = some (.int .i64 z) := (HI1.out.bel.cell (p := ⟨b', off' + k, none⟩) hbl').trans HC'.out
                      go_wp2_with fail
                      go_quiet (fail)
                      have HI2 := Lib.hid (HI1.out.below (below_drewN _ w6 nq))
                      clear o0 o1 a0 a1 b0 b1 m0 m1 m2 m3 mf2 hk0 hk1 hk2 HI1
                      generalize w6.drewN nq = w7 at *
                      obtain ⟨⟨o0, o1, _, _⟩, ⟨a0, a1, _, _⟩, ⟨b0, b1, _, _⟩, _, _, _⟩ := HI2.out.three
                      obtain ⟨m0, m1, m2, m3, _, _, mf2, _⟩ := HI2.out.m
                      have hk1 : w7.cell? ⟨b, off + k, none⟩ = some (.int .i64 y) := (HI2.out.bel.cell (p := ⟨b, off + k, none⟩) hbl).trans HC.out
                      have hk0 : w7.cell? ⟨bo, offo + k, none⟩ = some (.int .i64 y) := (HI2.out.bel.cell (p := ⟨bo, offo + k, none⟩) hblo).trans HCO.out
                      have hk2 : w7.cell? ⟨b', off' + k, none⟩ = some (.int .i64 z) := (HI2.out.bel.cell (p := ⟨b', off' + k, none⟩) hbl').trans HC'.out
                      obtain ⟨g', eg, _, _, hcg, hfg⟩ := HI2.out.oT.at_ HLT.out
                      cases eg
                      go_wp2_with fail
                      go_region
                      have HI3 := Lib.hid (HI2.out.drew.setT k z)
                      clear o0 o1 a0 a1 b0 b1 m0 m1 m2 m3 mf2 hk0 hk1 hk2 hcg hfg HI2
                      go_wp2
                      go_roundw
                      case rel => exact ⟨k + 1, A3, c3, by go_num, by omega, by rw [HE1.out, ← HE2.out]; exact HI3.out⟩
                      case measure => simp [intOf]; omega
                    · have hyx : (y == x) = false := by simpa using eyx
                      have HE1 : Hid (clashTo sb lo la lb (k + 1) = clashTo sb lo la lb k ++ [⟨(k : Int) % sb, (k : Int) / sb, y, z⟩]) := by show _ = _; rw [HS.out, HCA.out, if_pos (by simp [mClash, ezx, eyz, eyx])]
                      have HE2 : Hid (mergeTo lo la lb k ++ la.drop k = mergeTo lo la lb (k + 1) ++ la.drop (k + 1)) := HKP.out (by rw [HMA.out, mTile, if_neg (by simp [ezx, eyz]), if_neg eyx])
                      go_wp2_with fail
                      go_quiet (fail)
                      have HI1 := Lib.hid (HI.out.below (below_drewN _ wr nq))
                      clear o0 o1 a0 a1 b0 b1 hk0 hk1 hk2 HI
                      generalize wr.drewN nq = w6 at *
                      obtain ⟨⟨o0, o1, _, _⟩, ⟨a0, a1, _, _⟩, ⟨b0, b1, _, _⟩, _, _, _⟩ := HI1.out.three
                      obtain ⟨m0, m1, m2, m3, _, _, mf2, _⟩ := HI1.out.m
                      have hk1 : w6.cell? ⟨b, off + k, none⟩ = some (.int .i64 y) := (HI1.out.bel.cell (p := ⟨b, off + k, none⟩) hbl).trans HC.out
                      have hk0 : w6.cell? ⟨bo, offo + k, none⟩ = some (.int .i64 x) := (HI1.out.bel.cell (p := ⟨bo, offo + k, none⟩) hblo).trans HCO.out
                      have hk2 : w6.cell? ⟨b', off' + k, none⟩ = some (.int .i64 z) := (HI1.out.bel.cell (p := ⟨b', off' + k, none⟩) hbl').trans HC'.out
                      go_wp2_with fail
                      go_quiet (fail)
                      have HI2 := Lib.hid (HI1.out.below (below_drewN _ w6 nq))
                      clear o0 o1 a0 a1 b0 b1 m0 m1 m2 m3 mf2 hk0 hk1 hk2 HI1
                      generalize w6.drewN nq = w7 at *
                      obtain ⟨⟨o0, o1, _, _⟩, ⟨a0, a1, _, _⟩, ⟨b0, b1, _, _⟩, _, _, _⟩ := HI2.out.three
                      obtain ⟨m0, m1, m2, m3, _, _, mf2, _⟩ := HI2.out.m
                      have hk1 : w7.cell? ⟨b, off + k, none⟩ = some (.int .i64 y) := (HI2.out.bel.cell (p := ⟨b, off + k, none⟩) hbl).trans HC.out
                      have hk0 : w7.cell? ⟨bo, offo + k, none⟩ = some (.int .i64 x) := (HI2.out.bel.cell (p := ⟨bo, offo + k, none⟩) hblo).trans HCO.out
                      have hk2 : w7.cell? ⟨b', off' + k, none⟩ = some (.int .i64 z) := (HI2.out.bel.cell (p := ⟨b', off' + k, none⟩) hbl').trans HC'.out
                      have HIA := Lib.hid (HI2.out.below ((Below.refl _ _).alloc (Nat.le_refl _) (.cells #[.int .i64 ((k : Int) % sb), .int .i64 ((k : Int) / sb), .int .i64 y, .int .i64 z] 53))).drew
                      have HNA := Lib.hid (madeCh w7 ((k : Int) % sb) ((k : Int) / sb) y z)
                      have hqz : q < w7.heap.size := HI2.out.siz.2.2
                      have hzz := HI2.out.three.siz
                      obtain ⟨z1, z2, z3⟩ := HI2.out.siz
                      have hzv : w.heap.size < w7.heap.size := by omega
                      have hzw : w.heap.size + 1 < w7.heap.size := by omega
                      have hzx' : w.heap.size + 1 + 1 < w7.heap.size := by omega
                      have hzb : b < w7.heap.size := by omega
                      have hzb' : b' < w7.heap.size := by omega
                      have htm : (k : Int).tmod sb = (k : Int) % sb := Int.tmod_eq_emod_of_nonneg (by omega)
                      have hdv : IntKind.i64.wrap ((k : Int) / sb) = (k : Int) / sb := wrap_div (by omega) hs1
                      have hq1 : q ≠ w.heap.size + 1 := by omega
                      have hq2 : q ≠ w.heap.size + 1 + 1 := by omega
                      have hq3 : q ≠ b := by omega
                      have hq4 : q ≠ b' := by omega
                      have hbz := HIA.out.oC.lt
                      have hBz : B ≤ (w7.alloc (.cells #[.int .i64 ((k : Int) % sb), .int .i64 ((k : Int) / sb), .int .i64 y, .int .i64 z] 53)).drew.heap.size := by show B ≤ (w7.alloc _).heap.size; simp; omega
                      clear hbz
                      go_wp2_with fail
                      refine wp_region_noPanic ?_
                      refine wp_region_held_drew (S := (fun w' => w'.cell? ⟨w.heap.size + 1, 0, none⟩ = some (.int .i64 sb) ∧ w'.cell? ⟨w.heap.size + 1, 1, none⟩ = some (.slice (some ⟨b, off, none⟩) la.length c) ∧ w'.cell? ⟨w.heap.size + 1 + 1, 1, none⟩ = some (.slice (some ⟨b', off', none⟩) lb.length c') ∧ w'.cell? ⟨b, off + k, none⟩ = some (.int .i64 y) ∧ w'.cell? ⟨b', off' + k, none⟩ = some (.int .i64 z))) (by kernel_rfl) ⟨a0, a1, b1, hk1, hk2⟩ (fun hHeld => ?_)
                      refine wpAnyH_take (i := 0) (v := ?v1) rfl (by kernel_rfl) (by kernel_rfl) (by kernel_rfl) (fun _ _ _ h => h) (Or.inl ⟨by rfl, ?hy1⟩) (by assumption) ?rest1
                      case hy1 => (intro w' hSw; (try dsimp only at hSw); go_simp <;> with_reducible rfl)
                      simp only [Act.put, List.setIfInBounds_toArray, List.set_cons_zero, List.set_cons_succ]
                      refine wpAnyH_take (i := 2) (v := ?v2) rfl (by kernel_rfl) (by kernel_rfl) (by kernel_rfl) (fun _ _ _ h => h) (Or.inl ⟨by rfl, ?hy2⟩) (by assumption) ?rest2
                      case hy2 => (intro w' hSw; (try dsimp only at hSw); go_simp <;> with_reducible rfl)
                      simp only [Act.put, List.setIfInBounds_toArray, List.set_cons_zero, List.set_cons_succ]
                      refine wpAnyH_take (i := 3) (v := ?v3) rfl (by kernel_rfl) (by kernel_rfl) (by kernel_rfl) (fun _ _ _ h => h) (Or.inl ⟨by rfl, ?hy3⟩) (by assumption) ?rest3
                      case hy3 => (intro w' hSw; (try dsimp only at hSw); go_simp <;> with_reducible rfl)
                      simp only [Act.put, List.setIfInBounds_toArray, List.set_cons_zero, List.set_cons_succ]
                      refine wpAnyH_take (i := 4) (v := ?v4) rfl (by kernel_rfl) (by kernel_rfl) (by kernel_rfl) (fun _ _ _ h => h) (Or.inl ⟨by rfl, ?hy4⟩) (by assumption) ?rest4
                      case hy4 => (intro w' hSw; (try dsimp only at hSw); go_simp <;> with_reducible rfl)
                      simp only [Act.put, List.setIfInBounds_toArray, List.set_cons_zero, List.set_cons_succ]
                      refine wpAnyH_take (i := 5) (v := ?v5) rfl (by kernel_rfl) (by kernel_rfl) (by kernel_rfl) (fun _ _ _ h => h) (Or.inl ⟨by rfl, ?hy5⟩) (by assumption) ?rest5
                      case hy5 => (intro w' hSw; (try dsimp only at hSw); go_simp <;> with_reducible rfl)
                      simp only [Act.put, List.setIfInBounds_toArray, List.set_cons_zero, List.set_cons_succ]
                      refine wpAnyH_take (i := 6) (v := ?v6) rfl (by kernel_rfl) (by kernel_rfl) (by kernel_rfl) (fun _ _ _ h => h) (Or.inl ⟨by rfl, ?hy6⟩) (by assumption) ?rest6
                      case hy6 => (intro w' hSw; (try dsimp only at hSw); go_simp <;> with_reducible rfl)
                      simp only [Act.put, List.setIfInBounds_toArray, List.set_cons_zero, List.set_cons_succ]
                      refine wpAnyH_take (i := 7) (v := ?v7) rfl (by kernel_rfl) (by kernel_rfl) (by kernel_rfl) (fun _ _ _ h => h) (Or.inl ⟨by rfl, ?hy7⟩) (by assumption) ?rest7
                      case hy7 => (intro w' hSw; (try dsimp only at hSw); go_simp <;> with_reducible rfl)
                      simp only [Act.put, List.setIfInBounds_toArray, List.set_cons_zero, List.set_cons_succ]
                      refine wpAnyH_take (i := 8) (v := ?v8) rfl (by kernel_rfl) (by kernel_rfl) (by kernel_rfl) (fun _ _ _ h => h) (Or.inl ⟨by rfl, ?hy8⟩) (by assumption) ?rest8
                      case hy8 => (intro w' hSw; (try dsimp only at hSw); go_simp <;> with_reducible rfl)
                      simp only [Act.put, List.setIfInBounds_toArray, List.set_cons_zero, List.set_cons_succ]
                      refine wpAnyH_take (i := 9) (v := ?v9) rfl (by kernel_rfl) (by kernel_rfl) (by kernel_rfl) (fun _ _ _ h => h) (Or.inl ⟨by rfl, ?hy9⟩) (by assumption) ?rest9
                      case hy9 => (intro w' hSw; (try dsimp only at hSw); go_simp <;> with_reducible rfl)
                      simp only [Act.put, List.setIfInBounds_toArray, List.set_cons_zero, List.set_cons_succ]
                      refine wpAnyH_take (i := 10) (v := ?v10) rfl (by kernel_rfl) (by kernel_rfl) (by kernel_rfl) (fun _ _ _ h => h) (Or.inl ⟨by rfl, ?hy10⟩) (by assumption) ?rest10
                      case hy10 => (intro w' hSw; (try dsimp only at hSw); go_simp <;> with_reducible rfl)
                      simp only [Act.put, List.setIfInBounds_toArray, List.set_cons_zero, List.set_cons_succ]
                      refine wpAnyH_take (i := 11) (v := ?v11) rfl (by kernel_rfl) (by kernel_rfl) (by kernel_rfl) (fun _ _ _ h => h) (Or.inl ⟨by rfl, ?hy11⟩) (by assumption) ?rest11
                      case hy11 => (intro w' hSw; (try dsimp only at hSw); go_simp <;> with_reducible rfl)
                      simp only [Act.put, List.setIfInBounds_toArray, List.set_cons_zero, List.set_cons_succ]
                      refine wpAnyH_take (i := 12) (v := ?v12) rfl (by kernel_rfl) (by kernel_rfl) (by kernel_rfl) (fun _ _ _ h => h) (Or.inl ⟨by rfl, ?hy12⟩) (by assumption) ?rest12
                      case hy12 => (intro w' hSw; (try dsimp only at hSw); go_simp <;> with_reducible rfl)
                      simp only [Act.put, List.setIfInBounds_toArray, List.set_cons_zero, List.set_cons_succ]
                      refine wpAnyH_take (i := 13) (v := ?v13) rfl (by kernel_rfl) (by kernel_rfl) (by kernel_rfl) (fun _ _ _ h => h) (Or.inl ⟨by rfl, ?hy13⟩) (by assumption) ?rest13
                      case hy13 => (intro w' hSw; (try dsimp only at hSw); go_simp <;> with_reducible rfl)
                      simp only [Act.put, List.setIfInBounds_toArray, List.set_cons_zero, List.set_cons_succ]
                      refine wpAnyH_take (i := 14) (v := ?v14) rfl (by kernel_rfl) (by kernel_rfl) (by kernel_rfl) (fun _ _ _ h => h) (Or.inl ⟨by rfl, ?hy14⟩) (by assumption) ?rest14
                      case hy14 => (intro w' hSw; (try dsimp only at hSw); go_simp <;> with_reducible rfl)
                      simp only [Act.put, List.setIfInBounds_toArray, List.set_cons_zero, List.set_cons_succ]
                      refine wpAnyH_take (i := 15) (v := ?v15) rfl (by kernel_rfl) (by kernel_rfl) (by kernel_rfl) (fun _ _ _ h => h) (Or.inl ⟨by rfl, ?hy15⟩) (by assumption) ?rest15
                      case hy15 => (intro w' hSw; (try dsimp only at hSw); go_simp <;> with_reducible rfl)
                      simp only [Act.put, List.setIfInBounds_toArray, List.set_cons_zero, List.set_cons_succ]
                      refine wpAnyH_take (i := 16) (v := ?v16) rfl (by kernel_rfl) (by kernel_rfl) (by kernel_rfl) (fun _ _ _ h => h) (Or.inl ⟨by rfl, ?hy16⟩) (by assumption) ?rest16
                      case hy16 => (intro w' hSw; (try dsimp only at hSw); go_simp <;> with_reducible rfl)
                      simp only [Act.put, List.setIfInBounds_toArray, List.set_cons_zero, List.set_cons_succ]
                      refine wpAnyH_take (i := 17) (v := ?v17) rfl (by kernel_rfl) (by kernel_rfl) (by kernel_rfl) (fun _ _ _ h => h) (Or.inl ⟨by rfl, ?hy17⟩) (by assumption) ?rest17
                      case hy17 => (intro w' hSw; (try dsimp only at hSw); go_simp <;> with_reducible rfl)
                      simp only [Act.put, List.setIfInBounds_toArray, List.set_cons_zero, List.set_cons_succ]
                      refine wpAnyH_take (i := 18) (v := ?v18) rfl (by kernel_rfl) (by kernel_rfl) (by kernel_rfl) (fun _ _ _ h => h) (Or.inl ⟨by rfl, ?hy18⟩) (by assumption) ?rest18
                      case hy18 => (intro w' hSw; (try dsimp only at hSw); go_simp <;> with_reducible rfl)
                      simp only [Act.put, List.setIfInBounds_toArray, List.set_cons_zero, List.set_cons_succ]
                      refine wpAnyH_take (i := 19) (v := ?v19) rfl (by kernel_rfl) (by kernel_rfl) (by kernel_rfl) (fun _ _ _ h => h) (Or.inl ⟨by rfl, ?hy19⟩) (by assumption) ?rest19
                      case hy19 => (intro w' hSw; (try dsimp only at hSw); go_simp <;> with_reducible rfl)
                      simp only [Act.put, List.setIfInBounds_toArray, List.set_cons_zero, List.set_cons_succ]
                      refine wpAnyH_take (i := 20) (v := ?v20) rfl (by kernel_rfl) (by kernel_rfl) (by kernel_rfl) (fun _ _ _ h => h) (Or.inl ⟨by rfl, ?hy20⟩) (by assumption) ?rest20
                      case hy20 => (intro w' hSw; (try dsimp only at hSw); go_simp <;> with_reducible rfl)
                      simp only [Act.put, List.setIfInBounds_toArray, List.set_cons_zero, List.set_cons_succ]
                      refine wpAnyH_ready (rs := [1, 21]) (by kernel_rfl) (by simp) ?_
                      refine (AllReadyH.cons rfl (fun K hK => ?_) (AllReadyH.cons rfl (fun K hK => ?_) AllReadyH.nil))
                      · skip
                        go_simp
                        refine hK.out _ _ ?_ (fun hHeld => ?_)
                        · (first | exact hHeld | exact hk8 | exact hk9 | go_keep)
                        clear hK K
                        try simp only [Act.put, List.setIfInBounds_toArray, List.set_cons_zero, List.set_cons_succ]
                        refine wpAnyH_ready (rs := [21]) (by kernel_rfl) (by simp) ?_
                        refine (AllReadyH.cons rfl (fun K hK => ?_) AllReadyH.nil)
                        go_simp
                        refine hK.out _ _ ?_ (fun hHeld => ?_)
                        · (first | exact hHeld | exact hk8 | exact hk9 | go_keep)
                        clear hK K
                        try simp only [Act.put, List.setIfInBounds_toArray, List.set_cons_zero, List.set_cons_succ]
                        refine wpAnyH_ready (rs := [22]) (by kernel_rfl) (by simp) ?_
                        refine (AllReadyH.cons rfl (fun K hK => ?_) AllReadyH.nil)
                        refine step_appendCh hi hz0 hz1 hz2 (by rfl) _ _ (by rfl) B _ (clashTo sb lo la lb k) ⟨(k : Int) % sb, (k : Int) / sb, y, z⟩ _ w7.heap.size HIA.out.oC (by simp [Act.eval]) (by simp [Act.eval]) HNA.out hle hBz ?_; intro gC cap w8 hown8 hg8 hlies; have HI8 := Lib.hid (HIA.out.pushC hown8 hg8 hlies); have cq := hg8.cell HIA.out.m.c2 (fun e => HIA.out.aC e.symm); have fq := (World.frozen?_of_block (a := ⟨q, 2, none⟩) (hg8.block q HIA.out.siz.2.2 (fun e => HIA.out.aC e.symm))).trans HIA.out.m.f2; have hk9 := And.intro HI8.out.three.a.c0 (And.intro HI8.out.three.a.c1 (And.intro HI8.out.three.b.c1 (And.intro ((HI8.out.bel.cell (p := ⟨b, off + k, none⟩) hbl).trans HC.out) ((HI8.out.bel.cell (p := ⟨b', off' + k, none⟩) hbl').trans HC'.out)))); have hk8 := And.intro ((World.cell?_setCell_far w8 ⟨q, 2, none⟩ ⟨w.heap.size + 1, 0, none⟩ (.slice (some ⟨gC, 0, none⟩) ((clashTo sb lo la lb k).length + 1) cap) hq1).symm.trans hk9.1) (And.intro ((World.cell?_setCell_far w8 ⟨q, 2, none⟩ ⟨w.heap.size + 1, 1, none⟩ (.slice (some ⟨gC, 0, none⟩) ((clashTo sb lo la lb k).length + 1) cap) hq1).symm.trans hk9.2.1) (And.intro ((World.cell?_setCell_far w8 ⟨q, 2, none⟩ ⟨w.heap.size + 1 + 1, 1, none⟩ (.slice (some ⟨gC, 0, none⟩) ((clashTo sb lo la lb k).length + 1) cap) hq2).symm.trans hk9.2.2.1) (And.intro ((World.cell?_setCell_far w8 ⟨q, 2, none⟩ ⟨b, off + k, none⟩ (.slice (some ⟨gC, 0, none⟩) ((clashTo sb lo la lb k).length + 1) cap) hq3).symm.trans hk9.2.2.2.1) ((World.cell?_setCell_far w8 ⟨q, 2, none⟩ ⟨b', off' + k, none⟩ (.slice (some ⟨gC, 0, none⟩) ((clashTo sb lo la lb k).length + 1) cap) hq4).symm.trans hk9.2.2.2.2))))
                        refine hK.out _ _ ?_ (fun hHeld => ?_)
                        · (first | exact hHeld | exact hk8 | exact hk9 | go_keep)
                        clear hK K
                        try simp only [Act.put, List.setIfInBounds_toArray, List.set_cons_zero, List.set_cons_succ]
                        refine wpAnyH_take (i := 23) (v := ?v21) rfl (by kernel_rfl) (by kernel_rfl) (by kernel_rfl) (fun _ _ _ h => h) (Or.inl ⟨by rfl, ?hy21⟩) (by assumption) ?rest21
                        case hy21 => (intro w' hSw; (try dsimp only at hSw); go_simp <;> with_reducible rfl)
                        simp only [Act.put, List.setIfInBounds_toArray, List.set_cons_zero, List.set_cons_succ]
                        refine wpAnyH_ready (rs := [24]) (by kernel_rfl) (by simp) ?_
                        refine (AllReadyH.cons rfl (fun K hK => ?_) AllReadyH.nil)
                        go_simp
                        refine hK.out _ _ ?_ (fun hHeld => ?_)
                        · (first | exact hHeld | exact hk8 | exact hk9 | go_keep)
                        clear hK K
                        try simp only [Act.put, List.setIfInBounds_toArray, List.set_cons_zero, List.set_cons_succ]
                        refine wpAnyH_done (by kernel_rfl) ?_ _
                        refine NoPanic.normal ?_
                        clear hown8 hg8 hlies hk8 hk9 o0 o1 a0 a1 b0 b1 m0 m1 m2 m3 mf2 hk0 hk1 hk2 HIA HNA cq fq
                        go_wp2
                        go_roundw
                        case rel => exact ⟨k + 1, some ⟨gC, 0, none⟩, cap, by go_num, by omega, by rw [HE1.out, ← HE2.out, List.length_append]; exact HI8.out⟩
                        case measure => simp [intOf]; omega
                      · skip
                        go_simp
                        refine hK.out _ _ ?_ (fun hHeld => ?_)
                        · (first | exact hHeld | exact hk8 | exact hk9 | go_keep)
                        clear hK K
                        try simp only [Act.put, List.setIfInBounds_toArray, List.set_cons_zero, List.set_cons_succ]
                        refine wpAnyH_ready (rs := [1]) (by kernel_rfl) (by simp) ?_
                        refine (AllReadyH.cons rfl (fun K hK => ?_) AllReadyH.nil)
                        go_simp
                        refine hK.out _ _ ?_ (fun hHeld => ?_)
                        · (first | exact hHeld | exact hk8 | exact hk9 | go_keep)
                        clear hK K
                        try simp only [Act.put, List.setIfInBounds_toArray, List.set_cons_zero, List.set_cons_succ]
                        refine wpAnyH_ready (rs := [22]) (by kernel_rfl) (by simp) ?_
                        refine (AllReadyH.cons rfl (fun K hK => ?_) AllReadyH.nil)
                        refine step_appendCh hi hz0 hz1 hz2 (by rfl) _ _ (by rfl) B _ (clashTo sb lo la lb k) ⟨(k : Int) % sb, (k : Int) / sb, y, z⟩ _ w7.heap.size HIA.out.oC (by simp [Act.eval]) (by simp [Act.eval]) HNA.out hle hBz ?_; intro gC cap w8 hown8 hg8 hlies; have HI8 := Lib.hid (HIA.out.pushC hown8 hg8 hlies); have cq := hg8.cell HIA.out.m.c2 (fun e => HIA.out.aC e.symm); have fq := (World.frozen?_of_block (a := ⟨q, 2, none⟩) (hg8.block q HIA.out.siz.2.2 (fun e => HIA.out.aC e.symm))).trans HIA.out.m.f2; have hk9 := And.intro HI8.out.three.a.c0 (And.intro HI8.out.three.a.c1 (And.intro HI8.out.three.b.c1 (And.intro ((HI8.out.bel.cell (p := ⟨b, off + k, none⟩) hbl).trans HC.out) ((HI8.out.bel.cell (p := ⟨b', off' + k, none⟩) hbl').trans HC'.out)))); have hk8 := And.intro ((World.cell?_setCell_far w8 ⟨q, 2, none⟩ ⟨w.heap.size + 1, 0, none⟩ (.slice (some ⟨gC, 0, none⟩) ((clashTo sb lo la lb k).length + 1) cap) hq1).symm.trans hk9.1) (And.intro ((World.cell?_setCell_far w8 ⟨q, 2, none⟩ ⟨w.heap.size + 1, 1, none⟩ (.slice (some ⟨gC, 0, none⟩) ((clashTo sb lo la lb k).length + 1) cap) hq1).symm.trans hk9.2.1) (And.intro ((World.cell?_setCell_far w8 ⟨q, 2, none⟩ ⟨w.heap.size + 1 + 1, 1, none⟩ (.slice (some ⟨gC, 0, none⟩) ((clashTo sb lo la lb k).length + 1) cap) hq2).symm.trans hk9.2.2.1) (And.intro ((World.cell?_setCell_far w8 ⟨q, 2, none⟩ ⟨b, off + k, none⟩ (.slice (some ⟨gC, 0, none⟩) ((clashTo sb lo la lb k).length + 1) cap) hq3).symm.trans hk9.2.2.2.1) ((World.cell?_setCell_far w8 ⟨q, 2, none⟩ ⟨b', off' + k, none⟩ (.slice (some ⟨gC, 0, none⟩) ((clashTo sb lo la lb k).length + 1) cap) hq4).symm.trans hk9.2.2.2.2))))
                        refine hK.out _ _ ?_ (fun hHeld => ?_)
                        · (first | exact hHeld | exact hk8 | exact hk9 | go_keep)
                        clear hK K
                        try simp only [Act.put, List.setIfInBounds_toArray, List.set_cons_zero, List.set_cons_succ]
                        refine wpAnyH_take (i := 23) (v := ?v22) rfl (by kernel_rfl) (by kernel_rfl) (by kernel_rfl) (fun _ _ _ h => h) (Or.inl ⟨by rfl, ?hy22⟩) (by assumption) ?rest22
                        case hy22 => (intro w' hSw; (try dsimp only at hSw); go_simp <;> with_reducible rfl)
                        simp only [Act.put, List.setIfInBounds_toArray, List.set_cons_zero, List.set_cons_succ]
                        refine wpAnyH_ready (rs := [24]) (by kernel_rfl) (by simp) ?_
                        refine (AllReadyH.cons rfl (fun K hK => ?_) AllReadyH.nil)
                        go_simp
                        refine hK.out _ _ ?_ (fun hHeld => ?_)
                        · (first | exact hHeld | exact hk8 | exact hk9 | go_keep)
                        clear hK K
                        try simp only [Act.put, List.setIfInBounds_toArray, List.set_cons_zero, List.set_cons_succ]
                        refine wpAnyH_done (by kernel_rfl) ?_ _
                        refine NoPanic.normal ?_
                        clear hown8 hg8 hlies hk8 hk9 o0 o1 a0 a1 b0 b1 m0 m1 m2 m3 mf2 hk0 hk1 hk2 HIA HNA cq fq
                        go_wp2
                        go_roundw
                        case rel => exact ⟨k + 1, some ⟨gC, 0, none⟩, cap, by go_num, by omega, by rw [HE1.out, ← HE2.out, List.length_append]; exact HI8.out⟩
                        case measure => simp [intOf]; omega
              · obtain rfl : k = la.length := by omega
                have HV : Hid (mergeOut sb lo sb la sb lb = (0, sb, mergeTo lo la lb la.length, clashTo sb lo la lb la.length)) := by show _ = _; rw [HE.out, HLO.out]
                obtain ⟨m0, m1, m2, m3, _, _, _, _⟩ := HI.out.m
                obtain ⟨r0, r1, r2, r3, f0, f1, f2, f3⟩ := HI.out.three.r
                have HML := Lib.hid (mergeTo_len lo la lb la.length)
                have hz := HI.out.three.siz
                obtain ⟨z1, z2, z3⟩ := HI.out.siz
                go_wp2
                refine bodyPost_ret (v := .agg #[.int .i64 sb, .slice (some ⟨g, 0, none⟩) la.length c2, .slice A3 (clashTo sb lo la lb la.length).length c3, .int .i64 0]) (by simp [results, Try.results20, go_sem, r0, r1, r2, r3]) rfl ?_
                rw [HV.out]
                have hoT := HI.out.oT
                rw [List.drop_of_length_le (Nat.le_refl _), List.append_nil] at hoT
                have hsb : ∀ u : Value, w.heap.size + 1 + 1 + 1 < B := fun _ => z1
                refine ⟨some ⟨g, 0, none⟩, c2, A3, c3, by rw [HML.out], ?_, ?_, ?_, (((HI.out.bel.setCell (by simp; omega) _).setCell (by simp; omega) _).setCell (by simp; omega) _).setCell (by simp; omega) _⟩
                · rw [HML.out]
                  exact OwnI.lower (base := B) (by omega) (OwnI.set_below z1 _ (OwnI.set_below z1 _ (OwnI.set_below z1 _ (OwnI.set_below z1 _ hoT))))
                · exact OwnCh.lower (base := B) (by omega) (OwnCh.set_below z1 _ (OwnCh.set_below z1 _ (OwnCh.set_below z1 _ (OwnCh.set_below z1 _ HI.out.oC))))
                · rw [HML.out]; exact HI.out.ap
          · have hsb : (sb != sa) = true := by simpa using e2
            have HE := Lib.hid (mergeOut_bad (so := sa) (lo := lo) (sa := sa) (la := la) (sb := sb) (lb := lb) (by simp [threeRight, e2]))
            clear h1 h2 h3
            go_enter Try.func20, Try.ntmps20
            go_wp2_with fail
            refine (hro _ (HO.out.below' HM0.out.bel)).mono ?_
            rintro e w1 ⟨rfl, hb1⟩
            have HM1 := Lib.hid (HM0.out.below hb1)
            clear hb1 HM0
            obtain ⟨⟨o0, o1, _, _⟩, ⟨a0, a1, _, _⟩, ⟨b0, b1, _, _⟩, _, _, _⟩ := HM1.out
            go_wp2_with fail
            refine (hra _ (H.out.below' HM1.out.bel)).mono ?_
            rintro e w2 ⟨rfl, hb2⟩
            have HM2 := Lib.hid (HM1.out.below hb2)
            clear hb2 HM1 o0 o1 a0 a1 b0 b1
            obtain ⟨⟨o0, o1, _, _⟩, ⟨a0, a1, _, _⟩, ⟨b0, b1, _, _⟩, _, _, _⟩ := HM2.out
            go_wp2_with fail
            refine (hrb _ (H'.out.below' HM2.out.bel)).mono ?_
            rintro e w3 ⟨rfl, hb3⟩
            have HM3 := Lib.hid (HM2.out.below hb3)
            clear hb3 HM2 o0 o1 a0 a1 b0 b1
            obtain ⟨⟨o0, o1, _, _⟩, ⟨a0, a1, _, _⟩, ⟨b0, b1, _, _⟩, ⟨r0, r1, r2, r3, f0, f1, f2, f3⟩, _, _⟩ := HM3.out
            go_wp2
            refine bodyPost_ret (v := .agg #[.int .i64 0, .slice none 0 0, .slice none 0 0, .int .i64 1]) (by simp [results, Try.results20, go_sem, r0, r1, r2, r3]) rfl ?_
            rw [HE.out]
            exact ⟨none, 0, none, 0, rfl, OwnI.nil _ _ _ _, OwnCh.nil _ _, by simp [Value.ownBlock], (((HM3.out.bel.setCell (by simp; omega) _).setCell (by simp; omega) _).setCell (by simp; omega) _).setCell (by simp; omega) _⟩
        · have hsa : (sa != so) = true := by simpa using e1
          have HE := Lib.hid (mergeOut_bad (so := so) (lo := lo) (sa := sa) (la := la) (sb := sb) (lb := lb) (by simp [threeRight, e1]))
          clear h1 h2 h3
          go_enter Try.func20, Try.ntmps20
          go_wp2_with fail
          refine (hro _ (HO.out.below' HM0.out.bel)).mono ?_
          rintro e w1 ⟨rfl, hb1⟩
          have HM1 := Lib.hid (HM0.out.below hb1)
          clear hb1 HM0
          obtain ⟨⟨o0, o1, _, _⟩, ⟨a0, a1, _, _⟩, ⟨b0, b1, _, _⟩, _, _, _⟩ := HM1.out
          go_wp2_with fail
          refine (hra _ (H.out.below' HM1.out.bel)).mono ?_
          rintro e w2 ⟨rfl, hb2⟩
          have HM2 := Lib.hid (HM1.out.below hb2)
          clear hb2 HM1 o0 o1 a0 a1 b0 b1
          obtain ⟨⟨o0, o1, _, _⟩, ⟨a0, a1, _, _⟩, ⟨b0, b1, _, _⟩, _, _, _⟩ := HM2.out
          go_wp2_with fail
          refine (hrb _ (H'.out.below' HM2.out.bel)).mono ?_
          rintro e w3 ⟨rfl, hb3⟩
          have HM3 := Lib.hid (HM2.out.below hb3)
          clear hb3 HM2 o0 o1 a0 a1 b0 b1
          obtain ⟨⟨o0, o1, _, _⟩, ⟨a0, a1, _, _⟩, ⟨b0, b1, _, _⟩, ⟨r0, r1, r2, r3, f0, f1, f2, f3⟩, _, _⟩ := HM3.out
          go_wp2
          refine bodyPost_ret (v := .agg #[.int .i64 0, .slice none 0 0, .slice none 0 0, .int .i64 1]) (by simp [results, Try.results20, go_sem, r0, r1, r2, r3]) rfl ?_
          rw [HE.out]
          exact ⟨none, 0, none, 0, rfl, OwnI.nil _ _ _ _, OwnCh.nil _ _, by simp [Value.ownBlock], (((HM3.out.bel.setCell (by simp; omega) _).setCell (by simp; omega) _).setCell (by simp; omega) _).setCell (by simp; omega) _⟩
end Go.Proofs.Ythhadbojepcdjaa
