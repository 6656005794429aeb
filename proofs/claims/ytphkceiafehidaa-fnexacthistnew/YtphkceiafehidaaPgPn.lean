/- The program's PoolPut of a pool that lies nowhere: nothing but what the map makes. -/
import Derived.Test.YtphkceiafehidaaPgPP
namespace Go.Proofs.Ytphkceiafehidaa
open Go.RowKit
set_option linter.unusedVariables false
set_option linter.unusedSimpArgs false

theorem pCloneN_nil (w : World) :
    Calls Try.prog 102 #[.slice none 0 0] w fun e w' => e = .returned (.slice none 0 0) ∧ Below w.heap.size w w' := by
  have hq : ∀ (w : World) (a : Option Addr) (n c n' c' : Nat), (binOp .eql 50 (.slice a n c) (.slice none n' c')).run Try.prog w = .ok (.bool a.isNone) w := fun w a n c n' c' => Lib.run_eql_slice_nil w _ _ a n c n' c' Try.underlying50
  go_enter Try.func102, Try.ntmps102
  go_wp2_with fail
  go_ret
  exact ⟨rfl, Below.refl _ _⟩
set_option maxRecDepth 100000 in
set_option maxHeartbeats 1000000 in
theorem pShelfOf_nil (w : World) :
    Calls Try.prog 83 #[.agg #[.slice none 0 0]] w fun e w' => ∃ p m v, e = .returned (.pointer (some ⟨p, 0, none⟩)) ∧ SS w.heap.size p m v [] w' ∧ Below w.heap.size w w' := by
  have hb0 : Below w.heap.size w (w.alloc (.cells #[.slice none 0 0] 52)) := (Below.refl _ _).alloc (Nat.le_refl _) _
  have hCl := pCloneN_nil (w.alloc (.cells #[.slice none 0 0] 52))
  have hmm := @run_makeMap Try.prog
  go_enter Try.func83, Try.ntmps83
  go_wp2_with fail
  refine hCl.mono ?_
  rintro e w1 ⟨rfl, hb1⟩
  have HB1 := Lib.hid (hb0.trans (hb1.mono hb0.size))
  have hz1 : w.heap.size < w1.heap.size := by have := hb1.size; simp at this; omega
  clear hCl hb1 hb0
  go_wp2_with fail
  have hbz : Below w1.heap.size w1 ((w1.alloc (.map #[] 0)).alloc (.cells #[.slice none 0 0, .map (some w1.heap.size)] 130)) := ((Below.refl _ _).alloc (Nat.le_refl _) _).alloc (by simp) _
  have HSK : Hid (SK w.heap.size (w1.heap.size + 1) w1.heap.size (.slice none 0 0) [] ([].take 0) ((w1.alloc (.map #[] 0)).alloc (.cells #[.slice none 0 0, .map (some w1.heap.size)] 130))) :=
    SK.mk (PS.mk (by simp [go_sem]) (by simp [go_sem]) (OwnN.nil _ _) (by omega) (by simp) (by simp [Value.ownBlock])) (by simp [go_sem]) ((MapI.made w1).keep (by rw [Below.heap_alloc _ _ _ (by simp)])) (by omega) (by omega) (by simp [Value.ownBlock])
  have HBZ := Lib.hid (HB1.out.trans (hbz.mono (Nat.le_of_lt hz1)))
  clear hbz HB1
  generalize hP : w1.heap.size + 1 = p at *
  generalize hM : w1.heap.size = m at *
  generalize (w1.alloc (.map #[] 0)).alloc (.cells #[.slice none 0 0, .map (some m)] 130) = W1 at *
  clear hP hM hmm
  go_loopw [17] (fun i wr => i = .int .i64 0 ∧ SK w.heap.size p m (.slice none 0 0) [] ([].take 0) wr ∧ Below w.heap.size w wr) (fun i _ => 0)
  case atStart => exact ⟨rfl, HSK.out, HBZ.out⟩
  case round =>
    obtain ⟨rfl, hsk, hb⟩ := hrel
    have HS := Lib.hid hsk
    have HB := Lib.hid hb
    clear HSK HBZ hb hsk
    go_wp2_with fail
    go_ret
    exact ⟨p, m, _, rfl, ⟨HS.out.ps, HS.out.c1, HS.out.map, HS.out.hm, HS.out.nm, HS.out.nr⟩, HB.out⟩
set_option maxRecDepth 100000 in
set_option maxHeartbeats 2000000 in
theorem pPoolPut_nil (cg : Nat) (side : Int) (A' : Option Addr) (tiles : List Int) (w : World) (hri : RI w w.heap.size A' tiles) (htl : tiles.length ≤ 1048576) :
    Calls Try.prog 59 #[.agg #[.slice none 0 0], .agg #[.int .i64 side, .slice A' tiles.length cg]] w (POut w (putP [] side tiles)) := by
  have HRI := Lib.hid hri
  have HB0 := Lib.hid (BY.made w (.slice none 0 0) side (.slice A' tiles.length cg))
  have hPR := fun w h => pPoolRight_any none 0 [] w h (by simp) (by simp) (fun n hn => by cases hn)
  have hGR := fun w h => pRight_any side A' cg tiles w h (by omega)
  clear hri
  have hsz0 := HB0.out.siz
  cases hr : poolRight []
  · rw [hr] at hPR
    have HR : Hid (putP [] side tiles = (1, 0, [])) := by show _ = _; simp [putP, hr]
    clear hr
    go_enter Try.func59, Try.ntmps59
    go_wp2_with fail
    refine (hPR _ (.inl rfl)).mono ?_
    rintro e w1 ⟨rfl, hb1⟩
    have HB1 := Lib.hid (HB0.out.step (hb1.mono hsz0))
    obtain ⟨p0, g0, g1, r0, r1, r2, f0, f1, f2, hz1, _⟩ := HB1.out
    clear hb1
    have HB4 := HB1
    have hz4 := hz1
    go_wp2_with fail
    rw [HR.out]
    refine bodyPost_ret (v := .agg #[.slice none 0 0, .int .i64 0, .int .i64 1]) (by simp [results, Try.results59, go_sem, r0, r1, r2]) rfl ⟨none, 0, rfl, OwnN.nil _ _, ?_⟩
    exact ((HB4.out.bel.setCell (by simp; omega) _).setCell (by simp; omega) _).setCell (by simp; omega) _
  · rw [hr] at hPR
    have h200 := pool_len hr
    cases hg : gridRight side tiles
    · rw [hg] at hGR
      have HR : Hid (putP [] side tiles = (1, 0, [])) := by show _ = _; simp [putP, hg]
      clear hr hg
      go_enter Try.func59, Try.ntmps59
      go_wp2_with fail
      refine (hPR _ (.inl rfl)).mono ?_
      rintro e w1 ⟨rfl, hb1⟩
      have HB1 := Lib.hid (HB0.out.step (hb1.mono hsz0))
      obtain ⟨p0, g0, g1, r0, r1, r2, f0, f1, f2, hz1, _⟩ := HB1.out
      clear hb1
      go_wp2_with fail
      refine (hGR _ ((HRI.out.below HB1.out.bel).mono HB1.out.bel.size)).mono ?_
      rintro e w2 ⟨rfl, hb2⟩
      have HB2 := Lib.hid (HB1.out.step (hb2.mono HB1.out.siz))
      clear hb2 p0 g0 g1 r0 r1 r2 f0 f1 f2
      have HB4 := HB2
      obtain ⟨p0, g0, g1, r0, r1, r2, f0, f1, f2, hz4, _⟩ := HB4.out
      go_wp2_with fail
      rw [HR.out]
      refine bodyPost_ret (v := .agg #[.slice none 0 0, .int .i64 0, .int .i64 1]) (by simp [results, Try.results59, go_sem, r0, r1, r2]) rfl ⟨none, 0, rfl, OwnN.nil _ _, ?_⟩
      exact ((HB4.out.bel.setCell (by simp; omega) _).setCell (by simp; omega) _).setCell (by simp; omega) _
    · rw [hg] at hGR
      obtain ⟨sn, rfl, hs1, hs8, hln⟩ := right_nat hg
      have HSO := Lib.hid (right_parts hg).1
      have HLN := Lib.hid hln
      have HR : Hid (putP [] sn tiles = putR [] sn tiles) := by show _ = _; simp [putP, putR, hg, hr]
      have HTT : Hid (∀ t ∈ tiles, 0 ≤ t ∧ t ≤ 9) := by
        intro t ht
        obtain ⟨j, hj, rfl⟩ := List.getElem_of_mem ht
        exact (right_parts hg).2.2 j hj
      have HPR := Lib.hid hr
      clear hr hg hln
      go_enter Try.func59, Try.ntmps59
      go_wp2_with fail
      refine (hPR _ (.inl rfl)).mono ?_
      rintro e w1 ⟨rfl, hb1⟩
      have HB1 := Lib.hid (HB0.out.step (hb1.mono hsz0))
      obtain ⟨p0, g0, g1, r0, r1, r2, f0, f1, f2, hz1, _⟩ := HB1.out
      clear hb1
      go_wp2_with fail
      refine (hGR _ ((HRI.out.below HB1.out.bel).mono HB1.out.bel.size)).mono ?_
      rintro e w2 ⟨rfl, hb2⟩
      have HB2 := Lib.hid (HB1.out.step (hb2.mono HB1.out.siz))
      clear hb2 p0 g0 g1 r0 r1 r2 f0 f1 f2
      obtain ⟨p0, g0, g1, r0, r1, r2, f0, f1, f2, hz2, _⟩ := HB2.out
      have hSh := pShelfOf_nil w2
      go_wp2_with fail
      refine hSh.mono ?_
      rintro e w3 ⟨sp, sm, v3, rfl, hs3, hb3⟩
      have HB3 := Lib.hid (HB2.out.step (hb3.mono HB2.out.siz))
      have HS3 := Lib.hid hs3
      clear hs3 hb3 p0 g0 g1 r0 r1 r2 f0 f1 f2 hSh
      obtain ⟨p0, g0, g1, r0, r1, r2, f0, f1, f2, hz3, _⟩ := HB3.out
      have hPG := pPutGrid_any sn tiles HSO.out HLN.out HTT.out w2.heap.size sp sm cg v3 [] A' w3 HS3.out ((HRI.out.below HB3.out.bel).mono (by omega)) (by omega)
      go_wp2_with fail
      refine hPG.mono ?_
      rintro e w4 ⟨rfl, v4, hs4, hg4⟩
      have HB4 := Lib.hid (HB3.out.step ((HS3.out.base hg4).mono HB2.out.siz))
      have HS4 := Lib.hid hs4
      have HRR : Hid (putR [] sn tiles = if (GridPut sn tiles []).1.length ≤ 200 then ((0, ((GridPut sn tiles []).2 : Int), (GridPut sn tiles []).1) : Int × Int × List Nd) else (9, 0, [])) := by exact (rfl : putR [] sn tiles = _)
      clear hPG hs4 hg4 p0 g0 g1 r0 r1 r2 f0 f1 f2
      generalize GridPut sn tiles [] = R at *
      obtain ⟨l4, r4⟩ := R
      simp only at HS4 HRR
      obtain ⟨A4, c4, rfl⟩ := HS4.out.ps.own.form
      have k0 := HS4.out.ps.c0
      obtain ⟨p0, g0, g1, r0, r1, r2, f0, f1, f2, hz4, _⟩ := HB4.out
      by_cases h2 : l4.length ≤ 200
      · have hd : decide ((200 : Int) < (l4.length : Int)) = false := by simp; omega
        rw [if_pos h2] at HRR
        have hTF := pTooFull_any sp l4.length c4 A4 w4 k0
        rw [hd] at hTF
        go_wp2_with fail
        refine hTF.mono ?_
        rintro e w5 ⟨rfl, rfl⟩
        clear hTF
        go_wp2_with fail
        rw [HR.out, HRR.out]
        refine bodyPost_ret (v := .agg #[.slice A4 l4.length c4, .int .i64 r4, .int .i64 0]) (by simp [results, Try.results59, go_sem, r0, r1, r2]) rfl ⟨A4, c4, rfl, ?_, ?_⟩
        · exact OwnN.lower (base := w2.heap.size) (by omega) (OwnN.set_below (by show w.heap.size + 1 + 1 < _; omega) _ (OwnN.set_below (by show w.heap.size + 1 + 1 < _; omega) _ (OwnN.set_below (by show w.heap.size + 1 + 1 < _; omega) _ HS4.out.ps.own)))
        · exact ((HB4.out.bel.setCell (by simp; omega) _).setCell (by simp; omega) _).setCell (by simp; omega) _
      · have hd : decide ((200 : Int) < (l4.length : Int)) = true := by simp; omega
        rw [if_neg h2] at HRR
        have hTF := pTooFull_any sp l4.length c4 A4 w4 k0
        rw [hd] at hTF
        go_wp2_with fail
        refine hTF.mono ?_
        rintro e w5 ⟨rfl, rfl⟩
        clear hTF
        go_wp2_with fail
        rw [HR.out, HRR.out]
        refine bodyPost_ret (v := .agg #[.slice none 0 0, .int .i64 0, .int .i64 9]) (by simp [results, Try.results59, go_sem, r0, r1, r2]) rfl ⟨none, 0, rfl, OwnN.nil _ _, ?_⟩
        exact ((HB4.out.bel.setCell (by simp; omega) _).setCell (by simp; omega) _).setCell (by simp; omega) _
end Go.Proofs.Ytphkceiafehidaa
