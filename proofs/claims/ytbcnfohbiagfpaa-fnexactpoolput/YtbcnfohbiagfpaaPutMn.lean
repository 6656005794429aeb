/- The model's PoolPut. -/
import Derived.Test.YtbcnfohbiagfpaaPutMm
namespace Go.Proofs.Ytbcnfohbiagfpaa
open Go.RowKit
set_option linter.unusedVariables false

theorem OwnN.lit0 {w : World} {base : Nat} (hb : base ≤ w.heap.size) : OwnN (w.alloc (.cells #[] 151)) base (.slice (some ⟨w.heap.size, 0, none⟩) 0 0) [] := by
  have := World.ownsRow_lit (e := 151) (size := 5) (base := base) w #[] 0 hb (by simp [maxLen]) (by simp)
  simpa [OwnN] using this
/-- What l03Put answers of what is right. -/
def putR (l : List Nd) (sn : Nat) (tiles : List Int) : Int × Int × List Nd :=
  let r := msq (tileF sn tiles) (dbl sn) 0 0 l
  if r.1.length ≤ 200 then (0, r.2, r.1) else (9, 0, [])

/-- The boxes of a call that puts a map in: the map's, the answer's. -/
structure BX (w : World) (sn : Nat) (v : Value) (wr : World) : Prop where
  g0 : wr.cell? ⟨w.heap.size + 1, 0, none⟩ = some (.int .i64 sn)
  g1 : wr.cell? ⟨w.heap.size + 1, 1, none⟩ = some v
  r0 : wr.cell? ⟨w.heap.size + 1 + 1, 0, none⟩ = some (.slice none 0 0)
  r1 : wr.cell? ⟨w.heap.size + 1 + 1, 1, none⟩ = some (.int .i64 0)
  r2 : wr.cell? ⟨w.heap.size + 1 + 1, 2, none⟩ = some (.int .i64 0)
  f0 : wr.frozen? ⟨w.heap.size + 1 + 1, 0, none⟩ = false
  f1 : wr.frozen? ⟨w.heap.size + 1 + 1, 1, none⟩ = false
  f2 : wr.frozen? ⟨w.heap.size + 1 + 1, 2, none⟩ = false
  siz : w.heap.size + 1 + 1 < wr.heap.size
  bel : Below w.heap.size w wr
theorem BX.step {w : World} {sn : Nat} {v : Value} {wr wr' : World} (h : BX w sn v wr) (hb : Below (w.heap.size + 1 + 1 + 1) wr wr') : BX w sn v wr' :=
  ⟨(hb.cell (p := ⟨w.heap.size + 1, 0, none⟩) (by show w.heap.size + 1 < _; omega)).trans h.g0, (hb.cell (p := ⟨w.heap.size + 1, 1, none⟩) (by show w.heap.size + 1 < _; omega)).trans h.g1, (hb.cell (p := ⟨w.heap.size + 1 + 1, 0, none⟩) (by show w.heap.size + 1 + 1 < _; omega)).trans h.r0, (hb.cell (p := ⟨w.heap.size + 1 + 1, 1, none⟩) (by show w.heap.size + 1 + 1 < _; omega)).trans h.r1, (hb.cell (p := ⟨w.heap.size + 1 + 1, 2, none⟩) (by show w.heap.size + 1 + 1 < _; omega)).trans h.r2, (hb.frozen (p := ⟨w.heap.size + 1 + 1, 0, none⟩) (by show w.heap.size + 1 + 1 < _; omega)).trans h.f0, (hb.frozen (p := ⟨w.heap.size + 1 + 1, 1, none⟩) (by show w.heap.size + 1 + 1 < _; omega)).trans h.f1, (hb.frozen (p := ⟨w.heap.size + 1 + 1, 2, none⟩) (by show w.heap.size + 1 + 1 < _; omega)).trans h.f2, Nat.lt_of_lt_of_le h.siz hb.size, h.bel.trans (hb.mono (by omega))⟩
theorem BX.made (w : World) (sn : Nat) (v : Value) (u : Value) : BX w sn v (((w.alloc (.cells #[u] 58)).alloc (.cells #[.int .i64 sn, v] 25)).alloc (.cells #[.slice none 0 0, .int .i64 0, .int .i64 0] 60)) :=
  ⟨by simp [go_sem], by simp [go_sem], by simp [go_sem], by simp [go_sem], by simp [go_sem], by simp [go_sem], by simp [go_sem], by simp [go_sem], by simp, (((Below.refl _ _).alloc (Nat.le_refl _) _).alloc (by simp) _).alloc (by simp; omega) _⟩

set_option maxRecDepth 100000 in
set_option maxHeartbeats 2000000 in
theorem mPut_any (b off c cg sn : Nat) (l : List Nd) (A' : Option Addr) (tiles : List Int) (w : World) (hb : b < w.heap.size) (hn : ∀ j (hj : j < l.length), NdAt w b (off + j * 5) l[j]) (hl : l.length ≤ 1000) (hri : RI w w.heap.size A' tiles) (hs : sideOk (sn : Int) = true) (htl : tiles.length = sn * sn) :
    Calls Try.prog 89 #[.agg #[.slice (some ⟨b, off, none⟩) l.length c], .agg #[.int .i64 sn, .slice A' tiles.length cg]] w (POut w (putR l sn tiles)) := by
  obtain ⟨i0, hi, hz0, hz1, hz2⟩ := info_parts Try.infoNode
  obtain ⟨sn', e1, hs8, hpw, hd3⟩ := pow_dbl hs
  obtain rfl : sn = sn' := by omega
  have HN := Lib.hid hn
  have HRI := Lib.hid hri
  have HTL := Lib.hid htl
  have HPW := Lib.hid hpw
  have HD3 := Lib.hid hd3
  clear hn hri htl hpw hd3 e1 hs
  go_enter Try.func89, Try.ntmps89
  have hbw : Below w.heap.size w ((((w.alloc (.cells #[.slice (some ⟨b, off, none⟩) l.length c] 58)).alloc (.cells #[.int .i64 sn, .slice A' tiles.length cg] 25)).alloc (.cells #[.slice none 0 0, .int .i64 0, .int .i64 0] 60)).alloc (.cells #[] 151)) := ((((Below.refl _ _).alloc (Nat.le_refl _) _).alloc (by simp) _).alloc (by simp; omega) _).alloc (by simp; omega) _
  have hol := (OwnN.lit0 (w := ((w.alloc (.cells #[.slice (some ⟨b, off, none⟩) l.length c] 58)).alloc (.cells #[.int .i64 sn, .slice A' tiles.length cg] 25)).alloc (.cells #[.slice none 0 0, .int .i64 0, .int .i64 0] 60)) (base := w.heap.size + 1 + 1 + 1) (by simp))
  simp only [alloc_size] at hol
  have HOL := Lib.hid hol
  clear hol
  have HBX0 := Lib.hid ((BX.made w sn (.slice A' tiles.length cg) (.slice (some ⟨b, off, none⟩) l.length c)).step ((Below.refl _ _).alloc (by simp) (.cells #[] 151)))
  go_wp2_with (at_builtin; refine append_nodes hi hz0 hz1 hz2 rfl _ _ rfl (w.heap.size + 1 + 1 + 1) _ [] l _ b off c HOL.out rfl rfl (fun j hj => (HN.out j hj).keep (hbw.block b hb)) (by simp; omega) (by simp) ?_; intro v1 w1 hown1 hg1; obtain ⟨A1, c1, rfl⟩ := hown1.form; have HB1 := Lib.hid (HBX0.out.step ((Below.refl _ _).grown hg1 (by simp) (fun k hk => by cases hk; simp))); have HO1 := Lib.hid hown1; simp only [List.nil_append] at HO1; have hbx := (HB1.out.step ((Below.refl _ _).alloc HB1.out.siz (.cells #[.slice A1 l.length c1] 58))); have HBX := Lib.hid hbx; have g0 := hbx.g0; have g1 := hbx.g1; have hsz := HB1.out.siz; clear hown1 hg1 hbx)
  clear HOL HBX0
  have HPS : Hid (PS (w.heap.size + 1 + 1 + 1) w1.heap.size (.slice A1 l.length c1) l (w1.alloc (.cells #[.slice A1 l.length c1] 58))) :=
    PS.mk (by simp [go_sem]) (by simp [go_sem]) (HO1.out.alloc _) (by omega) (by simp) (fun e => by have := (HO1.out.lt _ e).2; omega)
  have HRW : Hid (RI (w1.alloc (.cells #[.slice A1 l.length c1] 58)) (w.heap.size + 1 + 1 + 1) A' tiles) := (HRI.out.below HBX.out.bel).mono (by omega)
  have hsq := mSquare_any sn tiles hs8 HTL.out (dbl sn) (w.heap.size + 1 + 1 + 1) w1.heap.size 0 0 cg (.slice A1 l.length c1) l A' (w1.alloc (.cells #[.slice A1 l.length c1] 58)) HD3.out (by rw [HPW.out]; omega) (by rw [HPW.out]; omega) HPS.out HRW.out (by have := cnt_le HD3.out; omega)
  rw [HPW.out] at hsq
  simp only [Int.natCast_zero] at hsq
  refine hsq.mono ?_
  rintro e w3 ⟨rfl, v3, hp3, hg3⟩
  have HB3 := Lib.hid (HBX.out.step (hg3.base (by simp; omega) (by omega) (by omega) (fun k hk => (HPS.out.own.lt k hk).1)))
  have HP3 := Lib.hid hp3
  have HR : Hid (putR l sn tiles = if (msq (tileF sn tiles) (dbl sn) 0 0 l).1.length ≤ 200 then ((0, ((msq (tileF sn tiles) (dbl sn) 0 0 l).2 : Int), (msq (tileF sn tiles) (dbl sn) 0 0 l).1) : Int × Int × List Nd) else (9, 0, [])) := by exact (rfl : putR l sn tiles = _)
  have HLL : Hid ((msq (tileF sn tiles) (dbl sn) 0 0 l).1.length ≤ 2000) := by have h1 := msq_len (tileF sn tiles) (dbl sn) 0 0 l; have h2 := cnt_le HD3.out; show _ ≤ _; omega
  clear hsq hp3 hg3 HPS HRW HBX HB1 HO1 g0 g1
  generalize msq (tileF sn tiles) (dbl sn) 0 0 l = R at *
  obtain ⟨l3, r3⟩ := R
  simp only at HP3 HR HLL
  obtain ⟨A3, c3, rfl⟩ := HP3.out.own.form
  have k0 := HP3.out.c0
  obtain ⟨_, _, r0, r1, r2, f0, f1, f2, hz3, _⟩ := HB3.out
  by_cases h200 : l3.length ≤ 200
  · have hd : decide ((200 : Int) < (l3.length : Int)) = false := by simp; omega
    rw [if_pos h200] at HR
    have hne : ¬ (w1.heap.size = w.heap.size + 1 + 1) := by omega
    go_wp2_with fail
    rw [HR.out]
    refine bodyPost_ret (v := .agg #[.slice A3 l3.length c3, .int .i64 r3, .int .i64 0]) (by simp [results, Try.results89, go_sem, r0, r1, r2]) rfl ⟨A3, c3, rfl, ?_, ?_⟩
    · exact OwnN.lower (base := w.heap.size + 1 + 1 + 1) (by omega) (OwnN.set_below (by show w.heap.size + 1 + 1 < _; omega) _ (OwnN.set_below (by show w.heap.size + 1 + 1 < _; omega) _ (OwnN.set_below (by show w.heap.size + 1 + 1 < _; omega) _ HP3.out.own)))
    · exact ((HB3.out.bel.setCell (by simp; omega) _).setCell (by simp; omega) _).setCell (by simp; omega) _
  · have hd : decide ((200 : Int) < (l3.length : Int)) = true := by simp; omega
    rw [if_neg h200] at HR
    have hIll := mPIll_any 9
    go_wp2_with fail
    refine (hIll _).mono ?_
    rintro e w4 ⟨rfl, hb4⟩
    have HB4 := Lib.hid (HB3.out.step (hb4.mono (by omega)))
    clear hb4 r0 r1 r2 f0 f1 f2
    obtain ⟨_, _, r0, r1, r2, f0, f1, f2, hz4, _⟩ := HB4.out
    go_wp2_with fail
    rw [HR.out]
    refine bodyPost_ret (v := .agg #[.slice none 0 0, .int .i64 0, .int .i64 9]) (by simp [results, Try.results89, go_sem, r0, r1, r2]) rfl ⟨none, 0, rfl, OwnN.nil _ _, ?_⟩
    exact ((HB4.out.bel.setCell (by simp; omega) _).setCell (by simp; omega) _).setCell (by simp; omega) _
end Go.Proofs.Ytbcnfohbiagfpaa
