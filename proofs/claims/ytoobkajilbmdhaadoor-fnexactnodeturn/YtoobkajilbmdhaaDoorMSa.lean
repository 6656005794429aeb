/- Several texts in one: TlI, TlJ, PutMn, TlK, TlV. -/
import Derived.Test.YtoobkajilbmdhaaDoorTlH
import Derived.Test.YtoobkajilbmdhaaDoorGridA
import Derived.Test.YtoobkajilbmdhaaDoorPutMm
namespace Go.Proofs.YtoobkajilbmdhaaDoor
open Go.RowKit
set_option linter.unusedVariables false
set_option linter.unusedSimpArgs false

set_option maxRecDepth 100000 in
set_option maxHeartbeats 1000000 in
theorem mPoolGet_any (A : Option Addr) (c : Nat) (l : List Nd) (rt side : Int) (w : World) (h : RN w w.heap.size A l) (hl : l.length ≤ 1000000000) :
    Calls Tryd.prog 18 #[.agg #[.slice A l.length c], .int .i64 rt, .int .i64 side] w fun e w' => GOut w w' (getP l rt side).2.1 (getP l rt side).2.2 (getP l rt side).1 e := by
  have HP0 := Lib.hid ((PB.made w A c l h).below ((Below.refl _ _).alloc (Nat.le_refl _) (.cells #[.int .i64 0, .slice none 0 0, .int .i64 0] 37)))
  have HY0 : Hid (GO ((w.alloc (.cells #[.slice A l.length c] 25)).alloc (.cells #[.int .i64 0, .slice none 0 0, .int .i64 0] 37)) (w.heap.size + 1)) := by
    have := GO.made (w.alloc (.cells #[.slice A l.length c] 25)) 37
    rw [alloc_size] at this
    exact this
  have hPR := fun w h => mPoolRight_any A c l w h hl
  have hSd := mSide_any side
  clear h
  cases hr : poolRight l
  · have HE : Hid (getP l rt side = (1, 0, [])) := by show _ = _; simp [getP, hr]
    rw [HE.out]
    rw [hr] at hPR
    clear hr
    go_enter Tryd.func18, Tryd.ntmps18
    go_wp2_with fail
    refine (hPR _ HP0.out.rn).mono ?_
    rintro e w1 ⟨rfl, hb1⟩
    have HP1 := Lib.hid (HP0.out.below hb1)
    have HY1 := Lib.hid (HY0.out.below hb1 (by simp))
    have hz1' : w.heap.size + 1 < w1.heap.size := by have := hb1.size; simp at this; omega
    clear hb1
    go_wp2_with fail
    refine (mIll_any 1 _).mono ?_
    rintro e w4 ⟨rfl, hb4⟩
    have HP4 := Lib.hid (HP1.out.below hb4)
    obtain ⟨c0, c1, c2, f0, f1, f2⟩ := HY1.out.below hb4 hz1'
    clear hb4
    go_wp2
    refine bodyPost_ret (v := .agg #[.int .i64 0, .slice none 0 0, .int .i64 1]) (by simp [results, Tryd.results18, go_sem, c0, c1, c2]) rfl ?_
    exact ⟨none, 0, rfl, OwnI.nil _ _ _ _, ((HP4.out.bel.setCell (by simp) _).setCell (by simp) _).setCell (by simp) _⟩
  · have HR := Lib.hid hr
    rw [hr] at hPR
    cases hs : sideOk side
    · have HE : Hid (getP l rt side = (1, 0, [])) := by show _ = _; simp [getP, hs]
      rw [HE.out]
      rw [hs] at hSd
      clear hr hs
      go_enter Tryd.func18, Tryd.ntmps18
      go_wp2_with fail
      refine (hPR _ HP0.out.rn).mono ?_
      rintro e w1 ⟨rfl, hb1⟩
      have HP1 := Lib.hid (HP0.out.below hb1)
      have HY1 := Lib.hid (HY0.out.below hb1 (by simp))
      have hz1' : w.heap.size + 1 < w1.heap.size := by have := hb1.size; simp at this; omega
      clear hb1
      go_wp2_with fail
      refine (hSd _).mono ?_
      rintro e w2 ⟨rfl, rfl⟩
      go_wp2_with fail
      refine (mIll_any 1 _).mono ?_
      rintro e w4 ⟨rfl, hb4⟩
      have HP4 := Lib.hid (HP1.out.below hb4)
      obtain ⟨c0, c1, c2, f0, f1, f2⟩ := HY1.out.below hb4 hz1'
      clear hb4
      go_wp2
      refine bodyPost_ret (v := .agg #[.int .i64 0, .slice none 0 0, .int .i64 1]) (by simp [results, Tryd.results18, go_sem, c0, c1, c2]) rfl ?_
      exact ⟨none, 0, rfl, OwnI.nil _ _ _ _, ((HP4.out.bel.setCell (by simp) _).setCell (by simp) _).setCell (by simp) _⟩
    · have HE : Hid (getP l rt side = getG l rt side) := by show _ = _; simp [getP, hr, hs]
      rw [HE.out]
      rw [hs] at hSd
      have hG := fun w h => mGet_any A c l rt side w h hr hs
      clear hr hs
      generalize getG l rt side = RES at *
      obtain ⟨C, S, T⟩ := RES
      simp only at hG ⊢
      go_enter Tryd.func18, Tryd.ntmps18
      go_wp2_with fail
      refine (hPR _ HP0.out.rn).mono ?_
      rintro e w1 ⟨rfl, hb1⟩
      have HP1 := Lib.hid (HP0.out.below hb1)
      have HY1 := Lib.hid (HY0.out.below hb1 (by simp))
      have hz1' : w.heap.size + 1 < w1.heap.size := by have := hb1.size; simp at this; omega
      clear hb1
      go_wp2_with fail
      refine (hSd _).mono ?_
      rintro e w2 ⟨rfl, rfl⟩
      have p0 := HP1.out.c0
      go_wp2_with fail
      refine (hG _ HP1.out.rn).mono ?_
      rintro e w4 ⟨A4, c4, rfl, ho4, hb4⟩
      have HP4 := Lib.hid (HP1.out.below hb4)
      obtain ⟨c0, c1, c2, f0, f1, f2⟩ := HY1.out.below hb4 hz1'
      have HO4 := Lib.hid ho4
      clear hb4 ho4 p0
      go_wp2
      refine bodyPost_ret (v := .agg #[.int .i64 S, .slice A4 T.length c4, .int .i64 C]) (by simp [results, Tryd.results18, go_sem, c0, c1, c2]) rfl ?_
      refine ⟨A4, c4, rfl, ?_, ((HP4.out.bel.setCell (by simp) _).setCell (by simp) _).setCell (by simp) _⟩
      exact OwnI.lower (base := w1.heap.size) (by omega) (OwnI.set_below (by show w.heap.size + 1 < _; omega) _ (OwnI.set_below (by show w.heap.size + 1 < _; omega) _ (OwnI.set_below (by show w.heap.size + 1 < _; omega) _ HO4.out)))
end Go.Proofs.YtoobkajilbmdhaaDoor

namespace Go.Proofs.YtoobkajilbmdhaaDoor
open Go.RowKit
set_option linter.unusedVariables false
set_option linter.unusedSimpArgs false

/-- What PoolAt answers. -/
def atP (l : List Nd) (rt side x y : Int) : Int := if (getP l rt side).1 = 0 then tileAt (getP l rt side).2.1 (getP l rt side).2.2 x y else -1

set_option maxRecDepth 100000 in
set_option maxHeartbeats 1000000 in
theorem mPoolAt_any (A : Option Addr) (c : Nat) (l : List Nd) (rt side x y : Int) (w : World) (h : RN w w.heap.size A l) (hl : l.length ≤ 1000000000) :
    Calls Tryd.prog 21 #[.agg #[.slice A l.length c], .int .i64 rt, .int .i64 side, .int .i64 x, .int .i64 y] w fun e w' => e = .returned (.int .i64 (atP l rt side x y)) ∧ Below w.heap.size w w' := by
  have HP0 := Lib.hid (PB.made w A c l h)
  have hG := fun w h => mPoolGet_any A c l rt side w h hl
  have hT := getP_len l rt side
  have HE : Hid (atP l rt side x y = if (getP l rt side).1 = 0 then tileAt (getP l rt side).2.1 (getP l rt side).2.2 x y else -1) := rfl
  rw [HE.out]
  clear h HE
  generalize getP l rt side = RES at *
  obtain ⟨C, S, T⟩ := RES
  simp only at hG hT ⊢
  by_cases hC : C = 0
  · subst hC
    rw [if_pos rfl]
    have hA := fun A' c' w h => mTileAt_any S x y A' c' T w h (by omega)
    go_enter Tryd.func21, Tryd.ntmps21
    go_wp2_with fail
    refine (hG _ HP0.out.rn).mono ?_
    rintro e w1 ⟨A1, c1, rfl, ho1, hb1⟩
    have HP1 := Lib.hid (HP0.out.below hb1)
    have HO1 := Lib.hid ho1
    clear hb1 ho1
    go_wp2_with fail
    have hb2 : Below w1.heap.size w1 (w1.alloc (.cells #[.int .i64 S, .slice A1 T.length c1, .int .i64 0] 37)) := (Below.refl _ _).alloc (Nat.le_refl _) _
    refine (hA A1 c1 _ ((HO1.out.ri.below hb2).mono (by simp))).mono ?_
    rintro e w3 ⟨rfl, hb3⟩
    have HP3 := Lib.hid ((HP1.out.below hb2).below hb3)
    clear hb2 hb3
    go_wp2
    exact bodyPost_ret (v := .int .i64 (tileAt S T x y)) (by simp [results, Tryd.results21, go_sem]) rfl ⟨rfl, HP3.out.bel⟩
  · rw [if_neg hC]
    go_enter Tryd.func21, Tryd.ntmps21
    go_wp2_with fail
    refine (hG _ HP0.out.rn).mono ?_
    rintro e w1 ⟨A1, c1, rfl, ho1, hb1⟩
    have HP1 := Lib.hid (HP0.out.below hb1)
    clear hb1 ho1
    go_wp2
    exact bodyPost_ret (v := .int .i64 (-1)) (by simp [results, Tryd.results21, go_sem]) rfl ⟨rfl, HP1.out.bel.alloc HP1.out.bel.size _⟩
end Go.Proofs.YtoobkajilbmdhaaDoor

namespace Go.Proofs.YtoobkajilbmdhaaDoor
open Go.RowKit
set_option linter.unusedVariables false

theorem OwnN.lit0 {w : World} {base : Nat} (hb : base ≤ w.heap.size) : OwnN (w.alloc (.cells #[] 84)) base (.slice (some ⟨w.heap.size, 0, none⟩) 0 0) [] := by
  have := World.ownsRow_lit (e := 84) (size := 5) (base := base) w #[] 0 hb (by simp [maxLen]) (by simp)
  simpa [OwnN] using this
/-- What l03Put answers of what is right. -/
def putR (l : List Nd) (sn : Nat) (tiles : List Int) : Int × Int × List Nd :=
  let r := msq (tileF sn tiles) (dbl sn) 0 0 l
  if r.1.length ≤ 200 then (0, r.2, r.1) else (9, 0, [])

/-- The boxes of a call that puts a map in: the map's, the answer's. -/
structure BX (w : World) (sn : Nat) (v : Value) (wr : World) : Prop where
  g0 : wr.cell? ⟨w.heap.size + 1, 0, none⟩ = some (.int .i64 sn)
  g1 : wr.cell? ⟨w.heap.size + 1, 1, none⟩ = some v
  r0 : wr.cell? ⟨w.heap.size + 1 + 1, 0, none⟩ = some (.slice none 0 0)
  r1 : wr.cell? ⟨w.heap.size + 1 + 1, 1, none⟩ = some (.int .i64 0)
  r2 : wr.cell? ⟨w.heap.size + 1 + 1, 2, none⟩ = some (.int .i64 0)
  f0 : wr.frozen? ⟨w.heap.size + 1 + 1, 0, none⟩ = false
  f1 : wr.frozen? ⟨w.heap.size + 1 + 1, 1, none⟩ = false
  f2 : wr.frozen? ⟨w.heap.size + 1 + 1, 2, none⟩ = false
  siz : w.heap.size + 1 + 1 < wr.heap.size
  bel : Below w.heap.size w wr
theorem BX.step {w : World} {sn : Nat} {v : Value} {wr wr' : World} (h : BX w sn v wr) (hb : Below (w.heap.size + 1 + 1 + 1) wr wr') : BX w sn v wr' :=
  ⟨(hb.cell (p := ⟨w.heap.size + 1, 0, none⟩) (by show w.heap.size + 1 < _; omega)).trans h.g0, (hb.cell (p := ⟨w.heap.size + 1, 1, none⟩) (by show w.heap.size + 1 < _; omega)).trans h.g1, (hb.cell (p := ⟨w.heap.size + 1 + 1, 0, none⟩) (by show w.heap.size + 1 + 1 < _; omega)).trans h.r0, (hb.cell (p := ⟨w.heap.size + 1 + 1, 1, none⟩) (by show w.heap.size + 1 + 1 < _; omega)).trans h.r1, (hb.cell (p := ⟨w.heap.size + 1 + 1, 2, none⟩) (by show w.heap.size + 1 + 1 < _; omega)).trans h.r2, (hb.frozen (p := ⟨w.heap.size + 1 + 1, 0, none⟩) (by show w.heap.size + 1 + 1 < _; omega)).trans h.f0, (hb.frozen (p := ⟨w.heap.size + 1 + 1, 1, none⟩) (by show w.heap.size + 1 + 1 < _; omega)).trans h.f1, (hb.frozen (p := ⟨w.heap.size + 1 + 1, 2, none⟩) (by show w.heap.size + 1 + 1 < _; omega)).trans h.f2, Nat.lt_of_lt_of_le h.siz hb.size, h.bel.trans (hb.mono (by omega))⟩
theorem BX.made (w : World) (sn : Nat) (v : Value) (u : Value) : BX w sn v (((w.alloc (.cells #[u] 25)).alloc (.cells #[.int .i64 sn, v] 28)).alloc (.cells #[.slice none 0 0, .int .i64 0, .int .i64 0] 32)) :=
  ⟨by simp [go_sem], by simp [go_sem], by simp [go_sem], by simp [go_sem], by simp [go_sem], by simp [go_sem], by simp [go_sem], by simp [go_sem], by simp, (((Below.refl _ _).alloc (Nat.le_refl _) _).alloc (by simp) _).alloc (by simp; omega) _⟩

set_option maxRecDepth 100000 in
set_option maxHeartbeats 2000000 in
theorem mPut_any (b off c cg sn : Nat) (l : List Nd) (A' : Option Addr) (tiles : List Int) (w : World) (hb : b < w.heap.size) (hn : ∀ j (hj : j < l.length), NdAt w b (off + j * 5) l[j]) (hl : l.length ≤ 1000) (hri : RI w w.heap.size A' tiles) (hs : sideOk (sn : Int) = true) (htl : tiles.length = sn * sn) :
    Calls Tryd.prog 57 #[.agg #[.slice (some ⟨b, off, none⟩) l.length c], .agg #[.int .i64 sn, .slice A' tiles.length cg]] w (POut w (putR l sn tiles)) := by
  obtain ⟨i0, hi, hz0, hz1, hz2⟩ := info_parts Tryd.infoNode
  obtain ⟨sn', e1, hs8, hpw, hd3⟩ := pow_dbl hs
  obtain rfl : sn = sn' := by omega
  have HN := Lib.hid hn
  have HRI := Lib.hid hri
  have HTL := Lib.hid htl
  have HPW := Lib.hid hpw
  have HD3 := Lib.hid hd3
  clear hn hri htl hpw hd3 e1 hs
  go_enter Tryd.func57, Tryd.ntmps57
  have hbw : Below w.heap.size w ((((w.alloc (.cells #[.slice (some ⟨b, off, none⟩) l.length c] 25)).alloc (.cells #[.int .i64 sn, .slice A' tiles.length cg] 28)).alloc (.cells #[.slice none 0 0, .int .i64 0, .int .i64 0] 32)).alloc (.cells #[] 84)) := ((((Below.refl _ _).alloc (Nat.le_refl _) _).alloc (by simp) _).alloc (by simp; omega) _).alloc (by simp; omega) _
  have hol := (OwnN.lit0 (w := ((w.alloc (.cells #[.slice (some ⟨b, off, none⟩) l.length c] 25)).alloc (.cells #[.int .i64 sn, .slice A' tiles.length cg] 28)).alloc (.cells #[.slice none 0 0, .int .i64 0, .int .i64 0] 32)) (base := w.heap.size + 1 + 1 + 1) (by simp))
  simp only [alloc_size] at hol
  have HOL := Lib.hid hol
  clear hol
  have HBX0 := Lib.hid ((BX.made w sn (.slice A' tiles.length cg) (.slice (some ⟨b, off, none⟩) l.length c)).step ((Below.refl _ _).alloc (by simp) (.cells #[] 84)))
  go_wp2_with (at_builtin; refine append_nodes hi hz0 hz1 hz2 rfl _ _ rfl (w.heap.size + 1 + 1 + 1) _ [] l _ b off c HOL.out rfl rfl (fun j hj => (HN.out j hj).keep (hbw.block b hb)) (by simp; omega) (by simp) ?_; intro v1 w1 hown1 hg1; obtain ⟨A1, c1, rfl⟩ := hown1.form; have HB1 := Lib.hid (HBX0.out.step ((Below.refl _ _).grown hg1 (by simp) (fun k hk => by cases hk; simp))); have HO1 := Lib.hid hown1; simp only [List.nil_append] at HO1; have hbx := (HB1.out.step ((Below.refl _ _).alloc HB1.out.siz (.cells #[.slice A1 l.length c1] 25))); have HBX := Lib.hid hbx; have g0 := hbx.g0; have g1 := hbx.g1; have hsz := HB1.out.siz; clear hown1 hg1 hbx)
  clear HOL HBX0
  have HPS : Hid (PS (w.heap.size + 1 + 1 + 1) w1.heap.size (.slice A1 l.length c1) l (w1.alloc (.cells #[.slice A1 l.length c1] 25))) :=
    PS.mk (by simp [go_sem]) (by simp [go_sem]) (HO1.out.alloc _) (by omega) (by simp) (fun e => by have := (HO1.out.lt _ e).2; omega)
  have HRW : Hid (RI (w1.alloc (.cells #[.slice A1 l.length c1] 25)) (w.heap.size + 1 + 1 + 1) A' tiles) := (HRI.out.below HBX.out.bel).mono (by omega)
  have hsq := mSquare_any sn tiles hs8 HTL.out (dbl sn) (w.heap.size + 1 + 1 + 1) w1.heap.size 0 0 cg (.slice A1 l.length c1) l A' (w1.alloc (.cells #[.slice A1 l.length c1] 25)) HD3.out (by rw [HPW.out]; omega) (by rw [HPW.out]; omega) HPS.out HRW.out (by have := cnt_le HD3.out; omega)
  rw [HPW.out] at hsq
  simp only [Int.natCast_zero] at hsq
  refine hsq.mono ?_
  rintro e w3 ⟨rfl, v3, hp3, hg3⟩
  have HB3 := Lib.hid (HBX.out.step (hg3.base (by simp; omega) (by omega) (by omega) (fun k hk => (HPS.out.own.lt k hk).1)))
  have HP3 := Lib.hid hp3
  have HR : Hid (putR l sn tiles = if (msq (tileF sn tiles) (dbl sn) 0 0 l).1.length ≤ 200 then ((0, ((msq (tileF sn tiles) (dbl sn) 0 0 l).2 : Int), (msq (tileF sn tiles) (dbl sn) 0 0 l).1) : Int × Int × List Nd) else (9, 0, [])) := by exact (rfl : putR l sn tiles = _)
  have HLL : Hid ((msq (tileF sn tiles) (dbl sn) 0 0 l).1.length ≤ 2000) := by have h1 := msq_len (tileF sn tiles) (dbl sn) 0 0 l; have h2 := cnt_le HD3.out; show _ ≤ _; omega
  clear hsq hp3 hg3 HPS HRW HBX HB1 HO1 g0 g1
  generalize msq (tileF sn tiles) (dbl sn) 0 0 l = R at *
  obtain ⟨l3, r3⟩ := R
  simp only at HP3 HR HLL
  obtain ⟨A3, c3, rfl⟩ := HP3.out.own.form
  have k0 := HP3.out.c0
  obtain ⟨_, _, r0, r1, r2, f0, f1, f2, hz3, _⟩ := HB3.out
  by_cases h200 : l3.length ≤ 200
  · have hd : decide ((200 : Int) < (l3.length : Int)) = false := by simp; omega
    rw [if_pos h200] at HR
    have hne : ¬ (w1.heap.size = w.heap.size + 1 + 1) := by omega
    go_wp2_with fail
    rw [HR.out]
    refine bodyPost_ret (v := .agg #[.slice A3 l3.length c3, .int .i64 r3, .int .i64 0]) (by simp [results, Tryd.results57, go_sem, r0, r1, r2]) rfl ⟨A3, c3, rfl, ?_, ?_⟩
    · exact OwnN.lower (base := w.heap.size + 1 + 1 + 1) (by omega) (OwnN.set_below (by show w.heap.size + 1 + 1 < _; omega) _ (OwnN.set_below (by show w.heap.size + 1 + 1 < _; omega) _ (OwnN.set_below (by show w.heap.size + 1 + 1 < _; omega) _ HP3.out.own)))
    · exact ((HB3.out.bel.setCell (by simp; omega) _).setCell (by simp; omega) _).setCell (by simp; omega) _
  · have hd : decide ((200 : Int) < (l3.length : Int)) = true := by simp; omega
    rw [if_neg h200] at HR
    have hIll := mPIll_any 9
    go_wp2_with fail
    refine (hIll _).mono ?_
    rintro e w4 ⟨rfl, hb4⟩
    have HB4 := Lib.hid (HB3.out.step (hb4.mono (by omega)))
    clear hb4 r0 r1 r2 f0 f1 f2
    obtain ⟨_, _, r0, r1, r2, f0, f1, f2, hz4, _⟩ := HB4.out
    go_wp2_with fail
    rw [HR.out]
    refine bodyPost_ret (v := .agg #[.slice none 0 0, .int .i64 0, .int .i64 9]) (by simp [results, Tryd.results57, go_sem, r0, r1, r2]) rfl ⟨none, 0, rfl, OwnN.nil _ _, ?_⟩
    exact ((HB4.out.bel.setCell (by simp; omega) _).setCell (by simp; omega) _).setCell (by simp; omega) _
end Go.Proofs.YtoobkajilbmdhaaDoor

namespace Go.Proofs.YtoobkajilbmdhaaDoor
open Go.RowKit
set_option linter.unusedVariables false
set_option linter.unusedSimpArgs false

theorem getP_ok {l : List Nd} {rt side : Int} (h : (getP l rt side).1 = 0) : poolRight l = true ∧ sideOk side = true ∧ (getP l rt side).2.1 = side ∧ (getP l rt side).2.2.length = side.toNat * side.toNat ∧ l ≠ [] := by
  unfold getP at h ⊢
  cases hr : poolRight l <;> cases hs : sideOk side <;> simp only [hr, hs, Bool.and_true, Bool.and_false, Bool.false_eq_true, if_false, if_true, reduceCtorEq] at h ⊢ <;> try (exact absurd h (by decide))
  unfold getG at h ⊢
  cases ht : thereN l.length rt <;> simp only [ht, Bool.false_eq_true, if_false, if_true] at h ⊢
  · exact absurd h (by decide)
  · by_cases hh : (hts l).getD rt.toNat 0 ≤ (dbl side.toNat : Int)
    · simp only [hh, if_true, getTo_len, true_and]
      rintro rfl
      simp [thereN, inIs] at ht
      omega
    · simp only [hh, if_false] at h
      exact absurd h (by decide)

/-- What PoolSet answers. -/
def setP (l : List Nd) (rt side x y tile : Int) : Int × Int × List Nd :=
  if (getP l rt side).1 = 0 then
    (if gridIn side x y then (if tileOk tile then putR l side.toNat ((getP l rt side).2.2.set (y * side + x).toNat tile) else (1, 0, [])) else (8, 0, []))
  else ((getP l rt side).1, 0, [])

end Go.Proofs.YtoobkajilbmdhaaDoor

namespace Go.Proofs.YtoobkajilbmdhaaDoor
open Go.RowKit
set_option linter.unusedVariables false
set_option linter.unusedSimpArgs false

/-- PoolSet's boxes: the pool's, the answer's. -/
structure SB (w : World) (A : Option Addr) (c : Nat) (l : List Nd) (wr : World) : Prop where
  p : PB w A c l wr
  c0 : wr.cell? ⟨w.heap.size + 1, 0, none⟩ = some (.slice none 0 0)
  c1 : wr.cell? ⟨w.heap.size + 1, 1, none⟩ = some (.int .i64 0)
  c2 : wr.cell? ⟨w.heap.size + 1, 2, none⟩ = some (.int .i64 0)
  f0 : wr.frozen? ⟨w.heap.size + 1, 0, none⟩ = false
  f1 : wr.frozen? ⟨w.heap.size + 1, 1, none⟩ = false
  f2 : wr.frozen? ⟨w.heap.size + 1, 2, none⟩ = false
  siz : w.heap.size + 1 < wr.heap.size
theorem SB.step {w : World} {A : Option Addr} {c : Nat} {l : List Nd} {wr wr' : World} (h : SB w A c l wr) (hb : Below (w.heap.size + 1 + 1) wr wr') : SB w A c l wr' :=
  ⟨h.p.below1 (hb.mono (Nat.le_succ _)), (hb.cell (p := ⟨w.heap.size + 1, 0, none⟩) (Nat.lt_succ_self _)).trans h.c0, (hb.cell (p := ⟨w.heap.size + 1, 1, none⟩) (Nat.lt_succ_self _)).trans h.c1, (hb.cell (p := ⟨w.heap.size + 1, 2, none⟩) (Nat.lt_succ_self _)).trans h.c2, (hb.frozen (p := ⟨w.heap.size + 1, 0, none⟩) (Nat.lt_succ_self _)).trans h.f0, (hb.frozen (p := ⟨w.heap.size + 1, 1, none⟩) (Nat.lt_succ_self _)).trans h.f1, (hb.frozen (p := ⟨w.heap.size + 1, 2, none⟩) (Nat.lt_succ_self _)).trans h.f2, Nat.lt_of_lt_of_le h.siz hb.size⟩
theorem got_place {side x y : Int} {n : Nat} (hs : sideOk side = true) (hl : n = side.toNat * side.toNat) (hi : gridIn side x y = true) : ∃ j : Nat, y * side + x = j ∧ j < n ∧ IntKind.i64.wrap (y * side) = y * side ∧ IntKind.i64.wrap (y * side + x) = y * side + x := by
  obtain ⟨h1, h2, h3, h4⟩ := gridIn_iff.1 hi
  have key : 0 ≤ y * side + x ∧ y * side + x < ((side.toNat * side.toNat : Nat) : Int) ∧ 0 ≤ y * side ∧ y * side ≤ 1000 ∧ side ≤ 8 := by
    rcases (sideOk_iff side).1 hs with rfl | rfl | rfl | rfl <;> refine ⟨by omega, ?_, by omega, by omega, by omega⟩ <;> simp <;> omega
  obtain ⟨e1, e2, e3, e4, e5⟩ := key
  rw [← hl] at e2
  exact ⟨(y * side + x).toNat, by omega, by omega, IntWalk.i64_in _ (by omega), IntWalk.i64_in _ (by omega)⟩
theorem SB.below {w : World} {A : Option Addr} {c : Nat} {l : List Nd} {wr wr' : World} (h : SB w A c l wr) (hb : Below wr.heap.size wr wr') : SB w A c l wr' :=
  ⟨h.p.below hb, (hb.cell (p := ⟨w.heap.size + 1, 0, none⟩) h.siz).trans h.c0, (hb.cell (p := ⟨w.heap.size + 1, 1, none⟩) h.siz).trans h.c1, (hb.cell (p := ⟨w.heap.size + 1, 2, none⟩) h.siz).trans h.c2, (hb.frozen (p := ⟨w.heap.size + 1, 0, none⟩) h.siz).trans h.f0, (hb.frozen (p := ⟨w.heap.size + 1, 1, none⟩) h.siz).trans h.f1, (hb.frozen (p := ⟨w.heap.size + 1, 2, none⟩) h.siz).trans h.f2, Nat.lt_of_lt_of_le h.siz hb.size⟩
theorem SB.made (w : World) (A : Option Addr) (c : Nat) (l : List Nd) (h : RN w w.heap.size A l) : SB w A c l ((w.alloc (.cells #[.slice A l.length c] 25)).alloc (.cells #[.slice none 0 0, .int .i64 0, .int .i64 0] 32)) :=
  ⟨(PB.made w A c l h).below ((Below.refl _ _).alloc (Nat.le_refl _) _), by simp [go_sem], by simp [go_sem], by simp [go_sem], by simp [go_sem], by simp [go_sem], by simp [go_sem], by simp⟩

set_option maxRecDepth 100000 in
set_option maxHeartbeats 1000000 in
theorem mPoolSet_any (A : Option Addr) (c : Nat) (l : List Nd) (rt side x y tile : Int) (w : World) (h : RN w w.heap.size A l) (hl : l.length ≤ 1000000000) :
    Calls Tryd.prog 19 #[.agg #[.slice A l.length c], .int .i64 rt, .int .i64 side, .int .i64 x, .int .i64 y, .int .i64 tile] w (POut w (setP l rt side x y tile)) := by
  have hG := fun w h => mPoolGet_any A c l rt side w h hl
  have hT := getP_len l rt side
  have HS0 := Lib.hid (SB.made w A c l h)
  clear h
  by_cases hC : (getP l rt side).1 = 0
  · obtain ⟨hr, hs, h1, h2, h3⟩ := getP_ok hC
    have hIn := fun A' n' c' w => mIn_any side x y A' n' c' w hs
    have hTi := mTile_any tile
    cases hi : gridIn side x y
    · have HE : Hid (setP l rt side x y tile = (8, 0, [])) := by show _ = _; simp [setP, hC, hi]
      rw [HE.out]
      rw [hi] at hIn
      have hIll := mPIll_any 8
      clear HE
      generalize getP l rt side = RES at *
      obtain ⟨C, S, T⟩ := RES
      simp only at hG hT hC h1 h2 ⊢
      subst hC h1
      have HL2 := Lib.hid h2
      clear h2
      go_enter Tryd.func19, Tryd.ntmps19
      go_wp2_with fail
      refine (hG _ HS0.out.p.rn).mono ?_
      rintro e w1 ⟨A1, c1, rfl, ho1, hb1⟩
      have HS1 := Lib.hid ((HS0.out.below hb1).below ((Below.refl _ _).alloc (Nat.le_refl _) (.cells #[.int .i64 S, .slice A1 T.length c1, .int .i64 0] 37)))
      clear hb1 ho1
      go_wp2_with fail
      refine (hIn _ _ _ _).mono ?_
      rintro e w2 ⟨rfl, hb2⟩
      have HS2 := Lib.hid (HS1.out.below hb2)
      clear hb2
      go_wp2_with fail
      refine (hIll _).mono ?_
      rintro e w4 ⟨rfl, hb4⟩
      have HS4 := Lib.hid (HS2.out.below hb4)
      obtain ⟨_, c0, c1', c2, f0, f1, f2, hz4⟩ := HS4.out
      clear hb4
      go_wp2
      refine bodyPost_ret (v := .agg #[.slice none 0 0, .int .i64 0, .int .i64 8]) (by simp [results, Tryd.results19, go_sem, c0, c1', c2]) rfl ⟨none, 0, rfl, OwnN.nil _ _, ?_⟩
      exact ((HS4.out.p.bel.setCell (by simp) _).setCell (by simp) _).setCell (by simp) _
    · cases ht : tileOk tile
      · have HE : Hid (setP l rt side x y tile = (1, 0, [])) := by show _ = _; simp [setP, hC, hi, ht]
        rw [HE.out]
        rw [hi] at hIn
        rw [ht] at hTi
        have hIll := mPIll_any 1
        clear HE
        generalize getP l rt side = RES at *
        obtain ⟨C, S, T⟩ := RES
        simp only at hG hT hC h1 h2 ⊢
        subst hC h1
        have HL2 := Lib.hid h2
        clear h2
        go_enter Tryd.func19, Tryd.ntmps19
        go_wp2_with fail
        refine (hG _ HS0.out.p.rn).mono ?_
        rintro e w1 ⟨A1, c1, rfl, ho1, hb1⟩
        have HS1 := Lib.hid ((HS0.out.below hb1).below ((Below.refl _ _).alloc (Nat.le_refl _) (.cells #[.int .i64 S, .slice A1 T.length c1, .int .i64 0] 37)))
        clear hb1 ho1
        go_wp2_with fail
        refine (hIn _ _ _ _).mono ?_
        rintro e w2 ⟨rfl, hb2⟩
        have HS2 := Lib.hid (HS1.out.below hb2)
        clear hb2
        go_wp2_with fail
        refine (hTi _).mono ?_
        rintro e w3 ⟨rfl, rfl⟩
        go_wp2_with fail
        refine (hIll _).mono ?_
        rintro e w4 ⟨rfl, hb4⟩
        have HS4 := Lib.hid (HS2.out.below hb4)
        obtain ⟨_, c0, c1', c2, f0, f1, f2, hz4⟩ := HS4.out
        clear hb4
        go_wp2
        refine bodyPost_ret (v := .agg #[.slice none 0 0, .int .i64 0, .int .i64 1]) (by simp [results, Tryd.results19, go_sem, c0, c1', c2]) rfl ⟨none, 0, rfl, OwnN.nil _ _, ?_⟩
        exact ((HS4.out.p.bel.setCell (by simp) _).setCell (by simp) _).setCell (by simp) _
      · have HE : Hid (setP l rt side x y tile = putR l side.toNat ((getP l rt side).2.2.set (y * side + x).toNat tile)) := by show _ = _; simp [setP, hC, hi, ht]
        rw [HE.out]
        obtain ⟨j, hj, hjl, hw1, hw2⟩ := got_place hs h2 hi
        rw [hj] at hw2
        rw [hj, Int.toNat_natCast]
        have HJ := Lib.hid hj
        rw [hi] at hIn
        rw [ht] at hTi
        clear HE hi ht
        generalize getP l rt side = RES at *
        obtain ⟨C, S, T⟩ := RES
        simp only at hG hT hC h1 h2 ⊢
        subst hC h1
        have HL2 := Lib.hid h2
        clear h2
        go_enter Tryd.func19, Tryd.ntmps19
        go_wp2_with fail
        refine (hG _ HS0.out.p.rn).mono ?_
        rintro e w1 ⟨A1, c1, rfl, ho1, hb1⟩
        have HS1 := Lib.hid ((HS0.out.below hb1).below ((Below.refl _ _).alloc (Nat.le_refl _) (.cells #[.int .i64 S, .slice A1 T.length c1, .int .i64 0] 37)))
        have HO1 := Lib.hid ho1
        obtain ⟨g, rfl, hg1, hg2, _, _⟩ := ho1.at_ hjl
        have hg1' : w.heap.size + 1 + 1 ≤ g := by simpa using hg1
        have k0 : (w1.alloc (.cells #[.int .i64 S, .slice (some ⟨g, 0, none⟩) T.length c1, .int .i64 0] 37)).cell? ⟨w1.heap.size, 0, none⟩ = some (.int .i64 S) := by simp [go_sem]
        have k1 : (w1.alloc (.cells #[.int .i64 S, .slice (some ⟨g, 0, none⟩) T.length c1, .int .i64 0] 37)).cell? ⟨w1.heap.size, 1, none⟩ = some (.slice (some ⟨g, 0, none⟩) T.length c1) := by simp [go_sem]
        have HK0 := Lib.hid k0
        have HK1 := Lib.hid k1
        clear k0 k1 hg1
        clear hb1 ho1
        go_wp2_with fail
        refine (hIn _ _ _ _).mono ?_
        rintro e w2 ⟨rfl, hb2⟩
        have HS2 := Lib.hid (HS1.out.below hb2)
        have k0 := (hb2.cell (p := ⟨w1.heap.size, 0, none⟩) (by simp)).trans HK0.out
        have k1 := (hb2.cell (p := ⟨w1.heap.size, 1, none⟩) (by simp)).trans HK1.out
        have ho2 := (HO1.out.keep ((Below.refl _ _).alloc (Nat.le_refl _) (.cells #[.int .i64 S, .slice (some ⟨g, 0, none⟩) T.length c1, .int .i64 0] 37))).keep hb2
        have HO3 := Lib.hid (ho2.store (j := j) tile).1
        obtain ⟨g', e', _, _, hcj, hfj⟩ := ho2.at_ hjl
        cases e'
        have hz2 : w1.heap.size < w2.heap.size := by have := hb2.size; simp at this; omega
        have HK2 := Lib.hid k0
        have HK3 := Lib.hid k1
        clear hb2 ho2
        go_wp2_with fail
        refine (hTi _).mono ?_
        rintro e w3 ⟨rfl, rfl⟩
        have hb3 : Below (w.heap.size + 1 + 1) w2 (w2.setCell ⟨g, j, none⟩ (.int .i64 tile)) := (Below.refl _ _).setCell hg1' _
        have HS3 := Lib.hid (HS2.out.step hb3)
        clear hb3
        have p0 := HS2.out.p.c0
        have n1 : g ≠ w.heap.size := by omega
        have n2 : w.heap.size ≠ g := by omega
        have n3 : g ≠ w1.heap.size := by omega
        have n4 : w1.heap.size ≠ g := by omega
        go_wp2_with fail
        have h200 := pool_len hr
        have hsb := side_bound hs
        have eS : ((S.toNat : Nat) : Int) = S := by omega
        rcases HS3.out.p.rn with hnil | ⟨b, off, rfl, hbl, hn⟩
        · exact absurd hnil h3
        have hPut := mPut_any b off c c1 S.toNat l (some ⟨g, 0, none⟩) (T.set j tile) _ hbl hn (by omega) HO3.out.ri (by rw [eS]; exact hs) (by rw [List.length_set]; exact HL2.out)
        rw [eS, List.length_set] at hPut
        refine hPut.mono ?_
        rintro e w4 ⟨A4, c4, rfl, ho4, hb4⟩
        have HS4 := Lib.hid (HS3.out.below hb4)
        have HO4 := Lib.hid (OwnN.lower (base' := w.heap.size + 1 + 1) HS3.out.siz ho4)
        obtain ⟨_, c0, c1', c2, f0, f1, f2, hz4⟩ := HS4.out
        clear hb4 ho4 hPut n1 n2 n3 n4 p0 k0 k1 hcj hfj
        generalize putR l S.toNat (T.set j tile) = R at *
        obtain ⟨rc, rr, rl⟩ := R
        simp only at HO4
        go_wp2_with fail
        refine bodyPost_ret (v := .agg #[.slice A4 rl.length c4, .int .i64 rr, .int .i64 rc]) (by simp [results, Tryd.results19, go_sem, c0, c1', c2]) rfl ⟨A4, c4, rfl, ?_, ?_⟩
        · exact OwnN.lower (base := w.heap.size + 1 + 1) (by omega) (OwnN.set_below (by show w.heap.size + 1 < _; omega) _ (OwnN.set_below (by show w.heap.size + 1 < _; omega) _ (OwnN.set_below (by show w.heap.size + 1 < _; omega) _ HO4.out)))
        · exact ((HS4.out.p.bel.setCell (by simp) _).setCell (by simp) _).setCell (by simp) _
  · have HE : Hid (setP l rt side x y tile = ((getP l rt side).1, 0, [])) := by show _ = _; simp [setP, hC]
    rw [HE.out]
    clear HE
    generalize getP l rt side = RES at *
    obtain ⟨C, S, T⟩ := RES
    simp only at hG hT hC ⊢
    have hIll := mPIll_any C
    go_enter Tryd.func19, Tryd.ntmps19
    go_wp2_with fail
    refine (hG _ HS0.out.p.rn).mono ?_
    rintro e w1 ⟨A1, c1, rfl, ho1, hb1⟩
    have HS1 := Lib.hid ((HS0.out.below hb1).below ((Below.refl _ _).alloc (Nat.le_refl _) (.cells #[.int .i64 S, .slice A1 T.length c1, .int .i64 C] 37)))
    clear hb1 ho1
    go_wp2_with fail
    refine (hIll _).mono ?_
    rintro e w4 ⟨rfl, hb4⟩
    have HS4 := Lib.hid (HS1.out.below hb4)
    obtain ⟨_, c0, c1', c2, f0, f1, f2, hz4⟩ := HS4.out
    clear hb4
    go_wp2
    refine bodyPost_ret (v := .agg #[.slice none 0 0, .int .i64 0, .int .i64 C]) (by simp [results, Tryd.results19, go_sem, c0, c1', c2]) rfl ⟨none, 0, rfl, OwnN.nil _ _, ?_⟩
    exact ((HS4.out.p.bel.setCell (by simp) _).setCell (by simp) _).setCell (by simp) _
end Go.Proofs.YtoobkajilbmdhaaDoor
