/- The program's PoolPut. -/
import Derived.Test.YtphkceiafehidaaPgZ
namespace Go.Proofs.Ytphkceiafehidaa
open Go.RowKit
set_option linter.unusedVariables false

set_option maxHeartbeats 400000 in
theorem pTooFull_any (p n c : Nat) (A : Option Addr) (w : World) (h : w.cell? ⟨p, 0, none⟩ = some (.slice A n c)) :
    Calls Try.prog 85 #[.pointer (some ⟨p, 0, none⟩)] w fun e w' => e = .returned (.bool (decide ((200 : Int) < (n : Int)))) ∧ w = w' := by
  go_enter Try.func85, Try.ntmps85
  go_wp2
  go_ret
  exact ⟨rfl, rfl⟩

set_option maxRecDepth 100000 in
set_option maxHeartbeats 2000000 in
theorem pPoolPut_any (b off c cg : Nat) (l : List Nd) (side : Int) (A' : Option Addr) (tiles : List Int) (w : World) (hn : NAt w b off l) (hl : l.length ≤ 1048576) (hri : RI w w.heap.size A' tiles) (htl : tiles.length ≤ 1048576) (hc : l.length ≤ c) (hf : ∀ n ∈ l, n.Fits) :
    Calls Try.prog 59 #[.agg #[.slice (some ⟨b, off, none⟩) l.length c], .agg #[.int .i64 side, .slice A' tiles.length cg]] w (POut w (putP l side tiles)) := by
  have HN := Lib.hid hn
  have HRI := Lib.hid hri
  have HB0 := Lib.hid (BY.made w (.slice (some ⟨b, off, none⟩) l.length c) side (.slice A' tiles.length cg))
  have hPR := fun w h => pPoolRight_any (some ⟨b, off, none⟩) c l w h hl hc hf
  have hGR := fun w h => pRight_any side A' cg tiles w h (by omega)
  have HFF := Lib.hid hf
  clear hn hri hf
  have hsz0 := HB0.out.siz
  have HRN0 := Lib.hid (HN.out.rn.below HB0.out.bel)
  cases hr : poolRight l
  · rw [hr] at hPR
    have HR : Hid (putP l side tiles = (1, 0, [])) := by show _ = _; simp [putP, hr]
    clear hr
    go_enter Try.func59, Try.ntmps59
    go_wp2_with fail
    refine (hPR _ (HRN0.out.mono HB0.out.bel.size)).mono ?_
    rintro e w1 ⟨rfl, hb1⟩
    have HB1 := Lib.hid (HB0.out.step (hb1.mono hsz0))
    obtain ⟨p0, g0, g1, r0, r1, r2, f0, f1, f2, hz1, _⟩ := HB1.out
    clear hb1
    have HB4 := HB1
    have hz4 := hz1
    go_wp2_with fail
    rw [HR.out]
    refine bodyPost_ret (v := .agg #[.slice none 0 0, .int .i64 0, .int .i64 1]) (by simp [results, Try.results59, go_sem, r0, r1, r2]) rfl ⟨none, 0, rfl, OwnN.nil _ _, ?_⟩
    exact ((HB4.out.bel.setCell (by simp; omega) _).setCell (by simp; omega) _).setCell (by simp; omega) _
  · rw [hr] at hPR
    have h200 := pool_len hr
    cases hg : gridRight side tiles
    · rw [hg] at hGR
      have HR : Hid (putP l side tiles = (1, 0, [])) := by show _ = _; simp [putP, hg]
      clear hr hg
      go_enter Try.func59, Try.ntmps59
      go_wp2_with fail
      refine (hPR _ (HRN0.out.mono HB0.out.bel.size)).mono ?_
      rintro e w1 ⟨rfl, hb1⟩
      have HB1 := Lib.hid (HB0.out.step (hb1.mono hsz0))
      obtain ⟨p0, g0, g1, r0, r1, r2, f0, f1, f2, hz1, _⟩ := HB1.out
      clear hb1
      go_wp2_with fail
      refine (hGR _ ((HRI.out.below HB1.out.bel).mono HB1.out.bel.size)).mono ?_
      rintro e w2 ⟨rfl, hb2⟩
      have HB2 := Lib.hid (HB1.out.step (hb2.mono HB1.out.siz))
      clear hb2 p0 g0 g1 r0 r1 r2 f0 f1 f2
      have HB4 := HB2
      obtain ⟨p0, g0, g1, r0, r1, r2, f0, f1, f2, hz4, _⟩ := HB4.out
      go_wp2_with fail
      rw [HR.out]
      refine bodyPost_ret (v := .agg #[.slice none 0 0, .int .i64 0, .int .i64 1]) (by simp [results, Try.results59, go_sem, r0, r1, r2]) rfl ⟨none, 0, rfl, OwnN.nil _ _, ?_⟩
      exact ((HB4.out.bel.setCell (by simp; omega) _).setCell (by simp; omega) _).setCell (by simp; omega) _
    · rw [hg] at hGR
      obtain ⟨sn, rfl, hs1, hs8, hln⟩ := right_nat hg
      have HSO := Lib.hid (right_parts hg).1
      have HLN := Lib.hid hln
      have HR : Hid (putP l sn tiles = putR l sn tiles) := by show _ = _; simp [putP, putR, hg, hr]
      have HTT : Hid (∀ t ∈ tiles, 0 ≤ t ∧ t ≤ 9) := by
        intro t ht
        obtain ⟨j, hj, rfl⟩ := List.getElem_of_mem ht
        exact (right_parts hg).2.2 j hj
      have HPR := Lib.hid hr
      clear hr hg hln
      go_enter Try.func59, Try.ntmps59
      go_wp2_with fail
      refine (hPR _ (HRN0.out.mono HB0.out.bel.size)).mono ?_
      rintro e w1 ⟨rfl, hb1⟩
      have HB1 := Lib.hid (HB0.out.step (hb1.mono hsz0))
      obtain ⟨p0, g0, g1, r0, r1, r2, f0, f1, f2, hz1, _⟩ := HB1.out
      clear hb1
      go_wp2_with fail
      refine (hGR _ ((HRI.out.below HB1.out.bel).mono HB1.out.bel.size)).mono ?_
      rintro e w2 ⟨rfl, hb2⟩
      have HB2 := Lib.hid (HB1.out.step (hb2.mono HB1.out.siz))
      clear hb2 p0 g0 g1 r0 r1 r2 f0 f1 f2
      obtain ⟨p0, g0, g1, r0, r1, r2, f0, f1, f2, hz2, _⟩ := HB2.out
      have HNA := Lib.hid (HN.out.below HB2.out.bel)
      have hSh := pShelfOf_any b off c l w2 HNA.out HPR.out HFF.out
      go_wp2_with fail
      refine hSh.mono ?_
      rintro e w3 ⟨sp, sm, v3, rfl, hs3, hb3⟩
      have HB3 := Lib.hid (HB2.out.step (hb3.mono HB2.out.siz))
      have HS3 := Lib.hid hs3
      clear hs3 hb3 p0 g0 g1 r0 r1 r2 f0 f1 f2 hSh
      obtain ⟨p0, g0, g1, r0, r1, r2, f0, f1, f2, hz3, _⟩ := HB3.out
      have hPG := pPutGrid_any sn tiles HSO.out HLN.out HTT.out w2.heap.size sp sm cg v3 l A' w3 HS3.out ((HRI.out.below HB3.out.bel).mono (by omega)) (by omega)
      go_wp2_with fail
      refine hPG.mono ?_
      rintro e w4 ⟨rfl, v4, hs4, hg4⟩
      have HB4 := Lib.hid (HB3.out.step ((HS3.out.base hg4).mono HB2.out.siz))
      have HS4 := Lib.hid hs4
      have HRR : Hid (putR l sn tiles = if (GridPut sn tiles l).1.length ≤ 200 then ((0, ((GridPut sn tiles l).2 : Int), (GridPut sn tiles l).1) : Int × Int × List Nd) else (9, 0, [])) := by exact (rfl : putR l sn tiles = _)
      clear hPG hs4 hg4 p0 g0 g1 r0 r1 r2 f0 f1 f2
      generalize GridPut sn tiles l = R at *
      obtain ⟨l4, r4⟩ := R
      simp only at HS4 HRR
      obtain ⟨A4, c4, rfl⟩ := HS4.out.ps.own.form
      have k0 := HS4.out.ps.c0
      obtain ⟨p0, g0, g1, r0, r1, r2, f0, f1, f2, hz4, _⟩ := HB4.out
      by_cases h2 : l4.length ≤ 200
      · have hd : decide ((200 : Int) < (l4.length : Int)) = false := by simp; omega
        rw [if_pos h2] at HRR
        have hTF := pTooFull_any sp l4.length c4 A4 w4 k0
        rw [hd] at hTF
        go_wp2_with fail
        refine hTF.mono ?_
        rintro e w5 ⟨rfl, rfl⟩
        clear hTF
        go_wp2_with fail
        rw [HR.out, HRR.out]
        refine bodyPost_ret (v := .agg #[.slice A4 l4.length c4, .int .i64 r4, .int .i64 0]) (by simp [results, Try.results59, go_sem, r0, r1, r2]) rfl ⟨A4, c4, rfl, ?_, ?_⟩
        · exact OwnN.lower (base := w2.heap.size) (by omega) (OwnN.set_below (by show w.heap.size + 1 + 1 < _; omega) _ (OwnN.set_below (by show w.heap.size + 1 + 1 < _; omega) _ (OwnN.set_below (by show w.heap.size + 1 + 1 < _; omega) _ HS4.out.ps.own)))
        · exact ((HB4.out.bel.setCell (by simp; omega) _).setCell (by simp; omega) _).setCell (by simp; omega) _
      · have hd : decide ((200 : Int) < (l4.length : Int)) = true := by simp; omega
        rw [if_neg h2] at HRR
        have hTF := pTooFull_any sp l4.length c4 A4 w4 k0
        rw [hd] at hTF
        go_wp2_with fail
        refine hTF.mono ?_
        rintro e w5 ⟨rfl, rfl⟩
        clear hTF
        go_wp2_with fail
        rw [HR.out, HRR.out]
        refine bodyPost_ret (v := .agg #[.slice none 0 0, .int .i64 0, .int .i64 9]) (by simp [results, Try.results59, go_sem, r0, r1, r2]) rfl ⟨none, 0, rfl, OwnN.nil _ _, ?_⟩
        exact ((HB4.out.bel.setCell (by simp; omega) _).setCell (by simp; omega) _).setCell (by simp; omega) _
end Go.Proofs.Ytphkceiafehidaa
