/- The model's PoolPut, whole. -/
import Derived.Test.YtbcnfohbiagfpaaPutMn
import Derived.Test.YtbcnfohbiagfpaaGridS
import Derived.Test.YtbcnfohbiagfpaaPgT
namespace Go.Proofs.Ytbcnfohbiagfpaa
open Go.RowKit
set_option linter.unusedVariables false

/-- The boxes with the pool's own. -/
structure BY (w : World) (u : Value) (side : Int) (v : Value) (wr : World) : Prop where
  p0 : wr.cell? ⟨w.heap.size, 0, none⟩ = some u
  g0 : wr.cell? ⟨w.heap.size + 1, 0, none⟩ = some (.int .i64 side)
  g1 : wr.cell? ⟨w.heap.size + 1, 1, none⟩ = some v
  r0 : wr.cell? ⟨w.heap.size + 1 + 1, 0, none⟩ = some (.slice none 0 0)
  r1 : wr.cell? ⟨w.heap.size + 1 + 1, 1, none⟩ = some (.int .i64 0)
  r2 : wr.cell? ⟨w.heap.size + 1 + 1, 2, none⟩ = some (.int .i64 0)
  f0 : wr.frozen? ⟨w.heap.size + 1 + 1, 0, none⟩ = false
  f1 : wr.frozen? ⟨w.heap.size + 1 + 1, 1, none⟩ = false
  f2 : wr.frozen? ⟨w.heap.size + 1 + 1, 2, none⟩ = false
  siz : w.heap.size + 1 + 1 < wr.heap.size
  bel : Below w.heap.size w wr
theorem BY.step {w : World} {u : Value} {side : Int} {v : Value} {wr wr' : World} (h : BY w u side v wr) (hb : Below (w.heap.size + 1 + 1 + 1) wr wr') : BY w u side v wr' :=
  ⟨(hb.cell (p := ⟨w.heap.size, 0, none⟩) (by show w.heap.size < _; omega)).trans h.p0, (hb.cell (p := ⟨w.heap.size + 1, 0, none⟩) (by show w.heap.size + 1 < _; omega)).trans h.g0, (hb.cell (p := ⟨w.heap.size + 1, 1, none⟩) (by show w.heap.size + 1 < _; omega)).trans h.g1, (hb.cell (p := ⟨w.heap.size + 1 + 1, 0, none⟩) (by show w.heap.size + 1 + 1 < _; omega)).trans h.r0, (hb.cell (p := ⟨w.heap.size + 1 + 1, 1, none⟩) (by show w.heap.size + 1 + 1 < _; omega)).trans h.r1, (hb.cell (p := ⟨w.heap.size + 1 + 1, 2, none⟩) (by show w.heap.size + 1 + 1 < _; omega)).trans h.r2, (hb.frozen (p := ⟨w.heap.size + 1 + 1, 0, none⟩) (by show w.heap.size + 1 + 1 < _; omega)).trans h.f0, (hb.frozen (p := ⟨w.heap.size + 1 + 1, 1, none⟩) (by show w.heap.size + 1 + 1 < _; omega)).trans h.f1, (hb.frozen (p := ⟨w.heap.size + 1 + 1, 2, none⟩) (by show w.heap.size + 1 + 1 < _; omega)).trans h.f2, Nat.lt_of_lt_of_le h.siz hb.size, h.bel.trans (hb.mono (by omega))⟩
theorem BY.made (w : World) (u : Value) (side : Int) (v : Value) : BY w u side v (((w.alloc (.cells #[u] 58)).alloc (.cells #[.int .i64 side, v] 25)).alloc (.cells #[.slice none 0 0, .int .i64 0, .int .i64 0] 60)) :=
  ⟨by simp [go_sem], by simp [go_sem], by simp [go_sem], by simp [go_sem], by simp [go_sem], by simp [go_sem], by simp [go_sem], by simp [go_sem], by simp [go_sem], by simp, (((Below.refl _ _).alloc (Nat.le_refl _) _).alloc (by simp) _).alloc (by simp; omega) _⟩
/-- Nodes that lie somewhere below. -/
def NAt (w : World) (b off : Nat) (l : List Nd) : Prop := b < w.heap.size ∧ ∀ j (hj : j < l.length), NdAt w b (off + j * 5) l[j]
theorem NAt.below {w w' : World} {b off : Nat} {l : List Nd} (h : NAt w b off l) (hb : Below w.heap.size w w') : NAt w' b off l := ⟨Nat.lt_of_lt_of_le h.1 hb.size, fun j hj => (h.2 j hj).keep (hb.block b h.1)⟩
theorem NAt.rn {w : World} {b off : Nat} {l : List Nd} (h : NAt w b off l) : RN w w.heap.size (some ⟨b, off, none⟩) l := .inr ⟨b, off, rfl, h.1, h.2⟩

set_option maxRecDepth 100000 in
set_option maxHeartbeats 2000000 in
theorem mPoolPut_any (b off c cg : Nat) (l : List Nd) (side : Int) (A' : Option Addr) (tiles : List Int) (w : World) (hn : NAt w b off l) (hl : l.length ≤ 1048576) (hri : RI w w.heap.size A' tiles) (htl : tiles.length ≤ 1048576) :
    Calls Try.prog 31 #[.agg #[.slice (some ⟨b, off, none⟩) l.length c], .agg #[.int .i64 side, .slice A' tiles.length cg]] w (POut w (putP l side tiles)) := by
  have HN := Lib.hid hn
  have HRI := Lib.hid hri
  have HB0 := Lib.hid (BY.made w (.slice (some ⟨b, off, none⟩) l.length c) side (.slice A' tiles.length cg))
  have hPR := fun w h => mPoolRight_any (some ⟨b, off, none⟩) c l w h (by omega)
  have hGR := fun w h => mRight_any side A' cg tiles w h (by omega)
  have hIll := mPIll_any 1
  clear hn hri
  have hsz0 := HB0.out.siz
  have HRN0 := Lib.hid (HN.out.rn.below HB0.out.bel)
  cases hr : poolRight l
  · rw [hr] at hPR
    have HR : Hid (putP l side tiles = (1, 0, [])) := by show _ = _; simp [putP, hr]
    clear hr
    go_enter Try.func31, Try.ntmps31
    go_wp2_with fail
    refine (hPR _ (HRN0.out.mono HB0.out.bel.size)).mono ?_
    rintro e w1 ⟨rfl, hb1⟩
    have HB1 := Lib.hid (HB0.out.step (hb1.mono hsz0))
    obtain ⟨p0, g0, g1, r0, r1, r2, f0, f1, f2, hz1, _⟩ := HB1.out
    clear hb1
    go_wp2_with fail
    refine (hIll _).mono ?_
    rintro e w4 ⟨rfl, hb4⟩
    have HB4 := Lib.hid (HB1.out.step (hb4.mono HB1.out.siz))
    clear hb4 p0 g0 g1 r0 r1 r2 f0 f1 f2
    obtain ⟨p0, g0, g1, r0, r1, r2, f0, f1, f2, hz4, _⟩ := HB4.out
    go_wp2_with fail
    rw [HR.out]
    refine bodyPost_ret (v := .agg #[.slice none 0 0, .int .i64 0, .int .i64 1]) (by simp [results, Try.results31, go_sem, r0, r1, r2]) rfl ⟨none, 0, rfl, OwnN.nil _ _, ?_⟩
    exact ((HB4.out.bel.setCell (by simp; omega) _).setCell (by simp; omega) _).setCell (by simp; omega) _
  · rw [hr] at hPR
    have h200 := pool_len hr
    cases hg : gridRight side tiles
    · rw [hg] at hGR
      have HR : Hid (putP l side tiles = (1, 0, [])) := by show _ = _; simp [putP, hg]
      clear hr hg
      go_enter Try.func31, Try.ntmps31
      go_wp2_with fail
      refine (hPR _ (HRN0.out.mono HB0.out.bel.size)).mono ?_
      rintro e w1 ⟨rfl, hb1⟩
      have HB1 := Lib.hid (HB0.out.step (hb1.mono hsz0))
      obtain ⟨p0, g0, g1, r0, r1, r2, f0, f1, f2, hz1, _⟩ := HB1.out
      clear hb1
      go_wp2_with fail
      refine (hGR _ ((HRI.out.below HB1.out.bel).mono HB1.out.bel.size)).mono ?_
      rintro e w2 ⟨rfl, hb2⟩
      have HB2 := Lib.hid (HB1.out.step (hb2.mono HB1.out.siz))
      clear hb2 p0 g0 g1 r0 r1 r2 f0 f1 f2
      go_wp2_with fail
      refine (hIll _).mono ?_
      rintro e w4 ⟨rfl, hb4⟩
      have HB4 := Lib.hid (HB2.out.step (hb4.mono HB2.out.siz))
      clear hb4
      obtain ⟨p0, g0, g1, r0, r1, r2, f0, f1, f2, hz4, _⟩ := HB4.out
      go_wp2_with fail
      rw [HR.out]
      refine bodyPost_ret (v := .agg #[.slice none 0 0, .int .i64 0, .int .i64 1]) (by simp [results, Try.results31, go_sem, r0, r1, r2]) rfl ⟨none, 0, rfl, OwnN.nil _ _, ?_⟩
      exact ((HB4.out.bel.setCell (by simp; omega) _).setCell (by simp; omega) _).setCell (by simp; omega) _
    · rw [hg] at hGR
      obtain ⟨sn, rfl, hs1, hs8, hln⟩ := right_nat hg
      have HSO := Lib.hid (right_parts hg).1
      have HLN := Lib.hid hln
      have HR : Hid (putP l sn tiles = putR l sn tiles) := by show _ = _; simp [putP, putR, hg, hr]
      clear hr hg hln
      go_enter Try.func31, Try.ntmps31
      go_wp2_with fail
      refine (hPR _ (HRN0.out.mono HB0.out.bel.size)).mono ?_
      rintro e w1 ⟨rfl, hb1⟩
      have HB1 := Lib.hid (HB0.out.step (hb1.mono hsz0))
      obtain ⟨p0, g0, g1, r0, r1, r2, f0, f1, f2, hz1, _⟩ := HB1.out
      clear hb1
      go_wp2_with fail
      refine (hGR _ ((HRI.out.below HB1.out.bel).mono HB1.out.bel.size)).mono ?_
      rintro e w2 ⟨rfl, hb2⟩
      have HB2 := Lib.hid (HB1.out.step (hb2.mono HB1.out.siz))
      clear hb2 p0 g0 g1 r0 r1 r2 f0 f1 f2
      obtain ⟨p0, g0, g1, r0, r1, r2, f0, f1, f2, hz2, _⟩ := HB2.out
      have HNA := Lib.hid (HN.out.below HB2.out.bel)
      have hPut := mPut_any b off c cg sn l A' tiles w2 HNA.out.1 HNA.out.2 (by omega) ((HRI.out.below HB2.out.bel).mono HB2.out.bel.size) HSO.out HLN.out
      go_wp2_with fail
      refine hPut.mono ?_
      rintro e w4 ⟨A4, c4, rfl, ho4, hb4⟩
      have HB4 := Lib.hid (HB2.out.step (hb4.mono HB2.out.siz))
      have HO4 := Lib.hid (OwnN.lower (base' := w.heap.size + 1 + 1 + 1) HB2.out.siz ho4)
      clear hb4 ho4 p0 g0 g1 r0 r1 r2 f0 f1 f2 hPut
      obtain ⟨p0, g0, g1, r0, r1, r2, f0, f1, f2, hz4, _⟩ := HB4.out
      generalize putR l sn tiles = R at *
      obtain ⟨rc, rr, rl⟩ := R
      simp only at HO4
      go_wp2_with fail
      rw [HR.out]
      refine bodyPost_ret (v := .agg #[.slice A4 rl.length c4, .int .i64 rr, .int .i64 rc]) (by simp [results, Try.results31, go_sem, r0, r1, r2]) rfl ⟨A4, c4, rfl, ?_, ?_⟩
      · exact OwnN.lower (base := w.heap.size + 1 + 1 + 1) (by omega) (OwnN.set_below (by show w.heap.size + 1 + 1 < _; omega) _ (OwnN.set_below (by show w.heap.size + 1 + 1 < _; omega) _ (OwnN.set_below (by show w.heap.size + 1 + 1 < _; omega) _ HO4.out)))
      · exact ((HB4.out.bel.setCell (by simp; omega) _).setCell (by simp; omega) _).setCell (by simp; omega) _
end Go.Proofs.Ytbcnfohbiagfpaa
