/- Several texts in one: PutMn, PgT, PutMo, PutMq, FPa, FPb, TlI, TlJ, TlK, FPc. -/
import Derived.Test.YtoobkajilbmdhaaDoorPutMm
import Derived.Test.YtoobkajilbmdhaaDoorPgB
import Derived.Test.YtoobkajilbmdhaaDoorGridS
import Derived.Test.YtoobkajilbmdhaaDoorTl
import Derived.Test.YtoobkajilbmdhaaDoorSq
import Derived.Test.YtoobkajilbmdhaaDoorTlH
import Derived.Test.YtoobkajilbmdhaaDoorGridA
namespace Go.Proofs.YtoobkajilbmdhaaDoor
open Go.RowKit
set_option linter.unusedVariables false

theorem OwnN.lit0 {w : World} {base : Nat} (hb : base ≤ w.heap.size) : OwnN (w.alloc (.cells #[] 84)) base (.slice (some ⟨w.heap.size, 0, none⟩) 0 0) [] := by
  have := World.ownsRow_lit (e := 84) (size := 5) (base := base) w #[] 0 hb (by simp [maxLen]) (by simp)
  simpa [OwnN] using this
/-- What l03Put answers of what is right. -/
def putR (l : List Nd) (sn : Nat) (tiles : List Int) : Int × Int × List Nd :=
  let r := msq (tileF sn tiles) (dbl sn) 0 0 l
  if r.1.length ≤ 200 then (0, r.2, r.1) else (9, 0, [])

/-- The boxes of a call that puts a map in: the map's, the answer's. -/
structure BX (w : World) (sn : Nat) (v : Value) (wr : World) : Prop where
  g0 : wr.cell? ⟨w.heap.size + 1, 0, none⟩ = some (.int .i64 sn)
  g1 : wr.cell? ⟨w.heap.size + 1, 1, none⟩ = some v
  r0 : wr.cell? ⟨w.heap.size + 1 + 1, 0, none⟩ = some (.slice none 0 0)
  r1 : wr.cell? ⟨w.heap.size + 1 + 1, 1, none⟩ = some (.int .i64 0)
  r2 : wr.cell? ⟨w.heap.size + 1 + 1, 2, none⟩ = some (.int .i64 0)
  f0 : wr.frozen? ⟨w.heap.size + 1 + 1, 0, none⟩ = false
  f1 : wr.frozen? ⟨w.heap.size + 1 + 1, 1, none⟩ = false
  f2 : wr.frozen? ⟨w.heap.size + 1 + 1, 2, none⟩ = false
  siz : w.heap.size + 1 + 1 < wr.heap.size
  bel : Below w.heap.size w wr
theorem BX.step {w : World} {sn : Nat} {v : Value} {wr wr' : World} (h : BX w sn v wr) (hb : Below (w.heap.size + 1 + 1 + 1) wr wr') : BX w sn v wr' :=
  ⟨(hb.cell (p := ⟨w.heap.size + 1, 0, none⟩) (by show w.heap.size + 1 < _; omega)).trans h.g0, (hb.cell (p := ⟨w.heap.size + 1, 1, none⟩) (by show w.heap.size + 1 < _; omega)).trans h.g1, (hb.cell (p := ⟨w.heap.size + 1 + 1, 0, none⟩) (by show w.heap.size + 1 + 1 < _; omega)).trans h.r0, (hb.cell (p := ⟨w.heap.size + 1 + 1, 1, none⟩) (by show w.heap.size + 1 + 1 < _; omega)).trans h.r1, (hb.cell (p := ⟨w.heap.size + 1 + 1, 2, none⟩) (by show w.heap.size + 1 + 1 < _; omega)).trans h.r2, (hb.frozen (p := ⟨w.heap.size + 1 + 1, 0, none⟩) (by show w.heap.size + 1 + 1 < _; omega)).trans h.f0, (hb.frozen (p := ⟨w.heap.size + 1 + 1, 1, none⟩) (by show w.heap.size + 1 + 1 < _; omega)).trans h.f1, (hb.frozen (p := ⟨w.heap.size + 1 + 1, 2, none⟩) (by show w.heap.size + 1 + 1 < _; omega)).trans h.f2, Nat.lt_of_lt_of_le h.siz hb.size, h.bel.trans (hb.mono (by omega))⟩
theorem BX.made (w : World) (sn : Nat) (v : Value) (u : Value) : BX w sn v (((w.alloc (.cells #[u] 25)).alloc (.cells #[.int .i64 sn, v] 28)).alloc (.cells #[.slice none 0 0, .int .i64 0, .int .i64 0] 32)) :=
  ⟨by simp [go_sem], by simp [go_sem], by simp [go_sem], by simp [go_sem], by simp [go_sem], by simp [go_sem], by simp [go_sem], by simp [go_sem], by simp, (((Below.refl _ _).alloc (Nat.le_refl _) _).alloc (by simp) _).alloc (by simp; omega) _⟩

set_option maxRecDepth 100000 in
set_option maxHeartbeats 2000000 in
theorem mPut_any (b off c cg sn : Nat) (l : List Nd) (A' : Option Addr) (tiles : List Int) (w : World) (hb : b < w.heap.size) (hn : ∀ j (hj : j < l.length), NdAt w b (off + j * 5) l[j]) (hl : l.length ≤ 1000) (hri : RI w w.heap.size A' tiles) (hs : sideOk (sn : Int) = true) (htl : tiles.length = sn * sn) :
    Calls Tryd.prog 57 #[.agg #[.slice (some ⟨b, off, none⟩) l.length c], .agg #[.int .i64 sn, .slice A' tiles.length cg]] w (POut w (putR l sn tiles)) := by
  obtain ⟨i0, hi, hz0, hz1, hz2⟩ := info_parts Tryd.infoNode
  obtain ⟨sn', e1, hs8, hpw, hd3⟩ := pow_dbl hs
  obtain rfl : sn = sn' := by omega
  have HN := Lib.hid hn
  have HRI := Lib.hid hri
  have HTL := Lib.hid htl
  have HPW := Lib.hid hpw
  have HD3 := Lib.hid hd3
  clear hn hri htl hpw hd3 e1 hs
  go_enter Tryd.func57, Tryd.ntmps57
  have hbw : Below w.heap.size w ((((w.alloc (.cells #[.slice (some ⟨b, off, none⟩) l.length c] 25)).alloc (.cells #[.int .i64 sn, .slice A' tiles.length cg] 28)).alloc (.cells #[.slice none 0 0, .int .i64 0, .int .i64 0] 32)).alloc (.cells #[] 84)) := ((((Below.refl _ _).alloc (Nat.le_refl _) _).alloc (by simp) _).alloc (by simp; omega) _).alloc (by simp; omega) _
  have hol := (OwnN.lit0 (w := ((w.alloc (.cells #[.slice (some ⟨b, off, none⟩) l.length c] 25)).alloc (.cells #[.int .i64 sn, .slice A' tiles.length cg] 28)).alloc (.cells #[.slice none 0 0, .int .i64 0, .int .i64 0] 32)) (base := w.heap.size + 1 + 1 + 1) (by simp))
  simp only [alloc_size] at hol
  have HOL := Lib.hid hol
  clear hol
  have HBX0 := Lib.hid ((BX.made w sn (.slice A' tiles.length cg) (.slice (some ⟨b, off, none⟩) l.length c)).step ((Below.refl _ _).alloc (by simp) (.cells #[] 84)))
  go_wp2_with (at_builtin; refine append_nodes hi hz0 hz1 hz2 rfl _ _ rfl (w.heap.size + 1 + 1 + 1) _ [] l _ b off c HOL.out rfl rfl (fun j hj => (HN.out j hj).keep (hbw.block b hb)) (by simp; omega) (by simp) ?_; intro v1 w1 hown1 hg1; obtain ⟨A1, c1, rfl⟩ := hown1.form; have HB1 := Lib.hid (HBX0.out.step ((Below.refl _ _).grown hg1 (by simp) (fun k hk => by cases hk; simp))); have HO1 := Lib.hid hown1; simp only [List.nil_append] at HO1; have hbx := (HB1.out.step ((Below.refl _ _).alloc HB1.out.siz (.cells #[.slice A1 l.length c1] 25))); have HBX := Lib.hid hbx; have g0 := hbx.g0; have g1 := hbx.g1; have hsz := HB1.out.siz; clear hown1 hg1 hbx)
  clear HOL HBX0
  have HPS : Hid (PS (w.heap.size + 1 + 1 + 1) w1.heap.size (.slice A1 l.length c1) l (w1.alloc (.cells #[.slice A1 l.length c1] 25))) :=
    PS.mk (by simp [go_sem]) (by simp [go_sem]) (HO1.out.alloc _) (by omega) (by simp) (fun e => by have := (HO1.out.lt _ e).2; omega)
  have HRW : Hid (RI (w1.alloc (.cells #[.slice A1 l.length c1] 25)) (w.heap.size + 1 + 1 + 1) A' tiles) := (HRI.out.below HBX.out.bel).mono (by omega)
  have hsq := mSquare_any sn tiles hs8 HTL.out (dbl sn) (w.heap.size + 1 + 1 + 1) w1.heap.size 0 0 cg (.slice A1 l.length c1) l A' (w1.alloc (.cells #[.slice A1 l.length c1] 25)) HD3.out (by rw [HPW.out]; omega) (by rw [HPW.out]; omega) HPS.out HRW.out (by have := cnt_le HD3.out; omega)
  rw [HPW.out] at hsq
  simp only [Int.natCast_zero] at hsq
  refine hsq.mono ?_
  rintro e w3 ⟨rfl, v3, hp3, hg3⟩
  have HB3 := Lib.hid (HBX.out.step (hg3.base (by simp; omega) (by omega) (by omega) (fun k hk => (HPS.out.own.lt k hk).1)))
  have HP3 := Lib.hid hp3
  have HR : Hid (putR l sn tiles = if (msq (tileF sn tiles) (dbl sn) 0 0 l).1.length ≤ 200 then ((0, ((msq (tileF sn tiles) (dbl sn) 0 0 l).2 : Int), (msq (tileF sn tiles) (dbl sn) 0 0 l).1) : Int × Int × List Nd) else (9, 0, [])) := by exact (rfl : putR l sn tiles = _)
  have HLL : Hid ((msq (tileF sn tiles) (dbl sn) 0 0 l).1.length ≤ 2000) := by have h1 := msq_len (tileF sn tiles) (dbl sn) 0 0 l; have h2 := cnt_le HD3.out; show _ ≤ _; omega
  clear hsq hp3 hg3 HPS HRW HBX HB1 HO1 g0 g1
  generalize msq (tileF sn tiles) (dbl sn) 0 0 l = R at *
  obtain ⟨l3, r3⟩ := R
  simp only at HP3 HR HLL
  obtain ⟨A3, c3, rfl⟩ := HP3.out.own.form
  have k0 := HP3.out.c0
  obtain ⟨_, _, r0, r1, r2, f0, f1, f2, hz3, _⟩ := HB3.out
  by_cases h200 : l3.length ≤ 200
  · have hd : decide ((200 : Int) < (l3.length : Int)) = false := by simp; omega
    rw [if_pos h200] at HR
    have hne : ¬ (w1.heap.size = w.heap.size + 1 + 1) := by omega
    go_wp2_with fail
    rw [HR.out]
    refine bodyPost_ret (v := .agg #[.slice A3 l3.length c3, .int .i64 r3, .int .i64 0]) (by simp [results, Tryd.results57, go_sem, r0, r1, r2]) rfl ⟨A3, c3, rfl, ?_, ?_⟩
    · exact OwnN.lower (base := w.heap.size + 1 + 1 + 1) (by omega) (OwnN.set_below (by show w.heap.size + 1 + 1 < _; omega) _ (OwnN.set_below (by show w.heap.size + 1 + 1 < _; omega) _ (OwnN.set_below (by show w.heap.size + 1 + 1 < _; omega) _ HP3.out.own)))
    · exact ((HB3.out.bel.setCell (by simp; omega) _).setCell (by simp; omega) _).setCell (by simp; omega) _
  · have hd : decide ((200 : Int) < (l3.length : Int)) = true := by simp; omega
    rw [if_neg h200] at HR
    have hIll := mPIll_any 9
    go_wp2_with fail
    refine (hIll _).mono ?_
    rintro e w4 ⟨rfl, hb4⟩
    have HB4 := Lib.hid (HB3.out.step (hb4.mono (by omega)))
    clear hb4 r0 r1 r2 f0 f1 f2
    obtain ⟨_, _, r0, r1, r2, f0, f1, f2, hz4, _⟩ := HB4.out
    go_wp2_with fail
    rw [HR.out]
    refine bodyPost_ret (v := .agg #[.slice none 0 0, .int .i64 0, .int .i64 9]) (by simp [results, Tryd.results57, go_sem, r0, r1, r2]) rfl ⟨none, 0, rfl, OwnN.nil _ _, ?_⟩
    exact ((HB4.out.bel.setCell (by simp; omega) _).setCell (by simp; omega) _).setCell (by simp; omega) _
end Go.Proofs.YtoobkajilbmdhaaDoor

namespace Go.Proofs.YtoobkajilbmdhaaDoor
open Go.RowKit

set_option maxRecDepth 100000 in
set_option maxHeartbeats 400000 in
theorem pRow_any (side x y : Int) (b off n c j m : Nat) (w : World) (hj : y * side + x = j) (hy : IntKind.i64.wrap (y * side) = y * side) (hm : 1 ≤ m) (hjm : j + m ≤ c) (hc : j + m ≤ 1000000) :
    Calls Tryd.prog 106 #[.agg #[.int .i64 side, .slice (some ⟨b, off, none⟩) n c], .int .i64 x, .int .i64 y, .int .i64 (m : Nat)] w fun e w' => e = .returned (.slice (some ⟨b, off + j, none⟩) m m) ∧ Below w.heap.size w w' := by
  have hbw : Below w.heap.size w (w.alloc (.cells #[.int .i64 side, .slice (some ⟨b, off, none⟩) n c] 28)) := (Below.refl _ _).alloc (Nat.le_refl _) _
  have hw1 : IntKind.i64.wrap (y * side + x) = j := by rw [hj]; exact IntWalk.i64_in _ (by omega)
  have hw2 : IntKind.i64.wrap ((j : Int) + m) = (j + m : Nat) := by rw [IntWalk.i64_in _ (by omega)]; omega
  clear hj
  go_enter Tryd.func106, Tryd.ntmps106
  go_wp2
  go_ret
  exact ⟨by simp, hbw⟩

theorem right_nat {side : Int} {l : List Int} (h : gridRight side l = true) : ∃ sn : Nat, side = sn ∧ 1 ≤ sn ∧ sn ≤ 8 ∧ l.length = sn * sn := by
  obtain ⟨hs, hl, _⟩ := right_parts h
  rcases (sideOk_iff side).1 hs with rfl | rfl | rfl | rfl
  · exact ⟨1, rfl, by omega, by omega, by omega⟩
  · exact ⟨2, rfl, by omega, by omega, by omega⟩
  · exact ⟨4, rfl, by omega, by omega, by omega⟩
  · exact ⟨8, rfl, by omega, by omega, by omega⟩
theorem wrap_prod {k sn : Nat} (hk : k ≤ 8) (hs : sn ≤ 8) : IntKind.i64.wrap ((k : Int) * sn) = (k : Int) * sn := by
  have h : k * sn ≤ 8 * 8 := Nat.mul_le_mul hk hs
  have e : (k : Int) * sn = ((k * sn : Nat) : Int) := by simp
  rw [e]
  exact IntWalk.i64_in _ (by omega)

/-- The digits of the first i tiles of row y. -/
def rowTo (sn : Nat) (l : List Int) (y : Nat) : Nat → List Int
  | 0 => []
  | i + 1 => rowTo sn l y i ++ [48 + l.getD (y * sn + i) 0]
theorem rowTo_length (sn : Nat) (l : List Int) (y i : Nat) : (rowTo sn l y i).length = i := by
  induction i with
  | zero => rfl
  | succ i ih => rw [rowTo, List.length_append, ih]; rfl
theorem text_row (sn : Nat) (l : List Int) (y i : Nat) (hi : i ≤ sn) (hs : 0 < sn) : textTo sn l (y * sn + i) = textTo sn l (y * sn) ++ rowTo sn l y i ++ (if i = sn then [10] else []) := by
  induction i with
  | zero => simp [rowTo]; omega
  | succ i ih =>
    have hm : ((y * sn + i : Nat) : Int) % (sn : Int) = i := by
      rw [← Int.natCast_emod, Nat.add_comm, Nat.add_mul_mod_self_right, Nat.mod_eq_of_lt (by omega)]
    rw [← Nat.add_assoc, textTo, ih (by omega), hm, if_neg (by omega), rowTo]
    by_cases e : i + 1 = sn
    · rw [if_pos (by omega), if_pos e]; simp
    · rw [if_neg (by omega), if_neg e]; simp

end Go.Proofs.YtoobkajilbmdhaaDoor

namespace Go.Proofs.YtoobkajilbmdhaaDoor
open Go.RowKit
set_option linter.unusedVariables false

/-- The boxes with the pool's own. -/
structure BY (w : World) (u : Value) (side : Int) (v : Value) (wr : World) : Prop where
  p0 : wr.cell? ⟨w.heap.size, 0, none⟩ = some u
  g0 : wr.cell? ⟨w.heap.size + 1, 0, none⟩ = some (.int .i64 side)
  g1 : wr.cell? ⟨w.heap.size + 1, 1, none⟩ = some v
  r0 : wr.cell? ⟨w.heap.size + 1 + 1, 0, none⟩ = some (.slice none 0 0)
  r1 : wr.cell? ⟨w.heap.size + 1 + 1, 1, none⟩ = some (.int .i64 0)
  r2 : wr.cell? ⟨w.heap.size + 1 + 1, 2, none⟩ = some (.int .i64 0)
  f0 : wr.frozen? ⟨w.heap.size + 1 + 1, 0, none⟩ = false
  f1 : wr.frozen? ⟨w.heap.size + 1 + 1, 1, none⟩ = false
  f2 : wr.frozen? ⟨w.heap.size + 1 + 1, 2, none⟩ = false
  siz : w.heap.size + 1 + 1 < wr.heap.size
  bel : Below w.heap.size w wr
theorem BY.step {w : World} {u : Value} {side : Int} {v : Value} {wr wr' : World} (h : BY w u side v wr) (hb : Below (w.heap.size + 1 + 1 + 1) wr wr') : BY w u side v wr' :=
  ⟨(hb.cell (p := ⟨w.heap.size, 0, none⟩) (by show w.heap.size < _; omega)).trans h.p0, (hb.cell (p := ⟨w.heap.size + 1, 0, none⟩) (by show w.heap.size + 1 < _; omega)).trans h.g0, (hb.cell (p := ⟨w.heap.size + 1, 1, none⟩) (by show w.heap.size + 1 < _; omega)).trans h.g1, (hb.cell (p := ⟨w.heap.size + 1 + 1, 0, none⟩) (by show w.heap.size + 1 + 1 < _; omega)).trans h.r0, (hb.cell (p := ⟨w.heap.size + 1 + 1, 1, none⟩) (by show w.heap.size + 1 + 1 < _; omega)).trans h.r1, (hb.cell (p := ⟨w.heap.size + 1 + 1, 2, none⟩) (by show w.heap.size + 1 + 1 < _; omega)).trans h.r2, (hb.frozen (p := ⟨w.heap.size + 1 + 1, 0, none⟩) (by show w.heap.size + 1 + 1 < _; omega)).trans h.f0, (hb.frozen (p := ⟨w.heap.size + 1 + 1, 1, none⟩) (by show w.heap.size + 1 + 1 < _; omega)).trans h.f1, (hb.frozen (p := ⟨w.heap.size + 1 + 1, 2, none⟩) (by show w.heap.size + 1 + 1 < _; omega)).trans h.f2, Nat.lt_of_lt_of_le h.siz hb.size, h.bel.trans (hb.mono (by omega))⟩
theorem BY.made (w : World) (u : Value) (side : Int) (v : Value) : BY w u side v (((w.alloc (.cells #[u] 25)).alloc (.cells #[.int .i64 side, v] 28)).alloc (.cells #[.slice none 0 0, .int .i64 0, .int .i64 0] 32)) :=
  ⟨by simp [go_sem], by simp [go_sem], by simp [go_sem], by simp [go_sem], by simp [go_sem], by simp [go_sem], by simp [go_sem], by simp [go_sem], by simp [go_sem], by simp, (((Below.refl _ _).alloc (Nat.le_refl _) _).alloc (by simp) _).alloc (by simp; omega) _⟩
/-- Nodes that lie somewhere below. -/
def NAt (w : World) (b off : Nat) (l : List Nd) : Prop := b < w.heap.size ∧ ∀ j (hj : j < l.length), NdAt w b (off + j * 5) l[j]
theorem NAt.below {w w' : World} {b off : Nat} {l : List Nd} (h : NAt w b off l) (hb : Below w.heap.size w w') : NAt w' b off l := ⟨Nat.lt_of_lt_of_le h.1 hb.size, fun j hj => (h.2 j hj).keep (hb.block b h.1)⟩
theorem NAt.rn {w : World} {b off : Nat} {l : List Nd} (h : NAt w b off l) : RN w w.heap.size (some ⟨b, off, none⟩) l := .inr ⟨b, off, rfl, h.1, h.2⟩

set_option maxRecDepth 100000 in
set_option maxHeartbeats 2000000 in
theorem mPoolPut_any (b off c cg : Nat) (l : List Nd) (side : Int) (A' : Option Addr) (tiles : List Int) (w : World) (hn : NAt w b off l) (hl : l.length ≤ 1048576) (hri : RI w w.heap.size A' tiles) (htl : tiles.length ≤ 1048576) :
    Calls Tryd.prog 16 #[.agg #[.slice (some ⟨b, off, none⟩) l.length c], .agg #[.int .i64 side, .slice A' tiles.length cg]] w (POut w (putP l side tiles)) := by
  have HN := Lib.hid hn
  have HRI := Lib.hid hri
  have HB0 := Lib.hid (BY.made w (.slice (some ⟨b, off, none⟩) l.length c) side (.slice A' tiles.length cg))
  have hPR := fun w h => mPoolRight_any (some ⟨b, off, none⟩) c l w h (by omega)
  have hGR := fun w h => mRight_any side A' cg tiles w h (by omega)
  have hIll := mPIll_any 1
  clear hn hri
  have hsz0 := HB0.out.siz
  have HRN0 := Lib.hid (HN.out.rn.below HB0.out.bel)
  cases hr : poolRight l
  · rw [hr] at hPR
    have HR : Hid (putP l side tiles = (1, 0, [])) := by show _ = _; simp [putP, hr]
    clear hr
    go_enter Tryd.func16, Tryd.ntmps16
    go_wp2_with fail
    refine (hPR _ (HRN0.out.mono HB0.out.bel.size)).mono ?_
    rintro e w1 ⟨rfl, hb1⟩
    have HB1 := Lib.hid (HB0.out.step (hb1.mono hsz0))
    obtain ⟨p0, g0, g1, r0, r1, r2, f0, f1, f2, hz1, _⟩ := HB1.out
    clear hb1
    go_wp2_with fail
    refine (hIll _).mono ?_
    rintro e w4 ⟨rfl, hb4⟩
    have HB4 := Lib.hid (HB1.out.step (hb4.mono HB1.out.siz))
    clear hb4 p0 g0 g1 r0 r1 r2 f0 f1 f2
    obtain ⟨p0, g0, g1, r0, r1, r2, f0, f1, f2, hz4, _⟩ := HB4.out
    go_wp2_with fail
    rw [HR.out]
    refine bodyPost_ret (v := .agg #[.slice none 0 0, .int .i64 0, .int .i64 1]) (by simp [results, Tryd.results16, go_sem, r0, r1, r2]) rfl ⟨none, 0, rfl, OwnN.nil _ _, ?_⟩
    exact ((HB4.out.bel.setCell (by simp; omega) _).setCell (by simp; omega) _).setCell (by simp; omega) _
  · rw [hr] at hPR
    have h200 := pool_len hr
    cases hg : gridRight side tiles
    · rw [hg] at hGR
      have HR : Hid (putP l side tiles = (1, 0, [])) := by show _ = _; simp [putP, hg]
      clear hr hg
      go_enter Tryd.func16, Tryd.ntmps16
      go_wp2_with fail
      refine (hPR _ (HRN0.out.mono HB0.out.bel.size)).mono ?_
      rintro e w1 ⟨rfl, hb1⟩
      have HB1 := Lib.hid (HB0.out.step (hb1.mono hsz0))
      obtain ⟨p0, g0, g1, r0, r1, r2, f0, f1, f2, hz1, _⟩ := HB1.out
      clear hb1
      go_wp2_with fail
      refine (hGR _ ((HRI.out.below HB1.out.bel).mono HB1.out.bel.size)).mono ?_
      rintro e w2 ⟨rfl, hb2⟩
      have HB2 := Lib.hid (HB1.out.step (hb2.mono HB1.out.siz))
      clear hb2 p0 g0 g1 r0 r1 r2 f0 f1 f2
      go_wp2_with fail
      refine (hIll _).mono ?_
      rintro e w4 ⟨rfl, hb4⟩
      have HB4 := Lib.hid (HB2.out.step (hb4.mono HB2.out.siz))
      clear hb4
      obtain ⟨p0, g0, g1, r0, r1, r2, f0, f1, f2, hz4, _⟩ := HB4.out
      go_wp2_with fail
      rw [HR.out]
      refine bodyPost_ret (v := .agg #[.slice none 0 0, .int .i64 0, .int .i64 1]) (by simp [results, Tryd.results16, go_sem, r0, r1, r2]) rfl ⟨none, 0, rfl, OwnN.nil _ _, ?_⟩
      exact ((HB4.out.bel.setCell (by simp; omega) _).setCell (by simp; omega) _).setCell (by simp; omega) _
    · rw [hg] at hGR
      obtain ⟨sn, rfl, hs1, hs8, hln⟩ := right_nat hg
      have HSO := Lib.hid (right_parts hg).1
      have HLN := Lib.hid hln
      have HR : Hid (putP l sn tiles = putR l sn tiles) := by show _ = _; simp [putP, putR, hg, hr]
      clear hr hg hln
      go_enter Tryd.func16, Tryd.ntmps16
      go_wp2_with fail
      refine (hPR _ (HRN0.out.mono HB0.out.bel.size)).mono ?_
      rintro e w1 ⟨rfl, hb1⟩
      have HB1 := Lib.hid (HB0.out.step (hb1.mono hsz0))
      obtain ⟨p0, g0, g1, r0, r1, r2, f0, f1, f2, hz1, _⟩ := HB1.out
      clear hb1
      go_wp2_with fail
      refine (hGR _ ((HRI.out.below HB1.out.bel).mono HB1.out.bel.size)).mono ?_
      rintro e w2 ⟨rfl, hb2⟩
      have HB2 := Lib.hid (HB1.out.step (hb2.mono HB1.out.siz))
      clear hb2 p0 g0 g1 r0 r1 r2 f0 f1 f2
      obtain ⟨p0, g0, g1, r0, r1, r2, f0, f1, f2, hz2, _⟩ := HB2.out
      have HNA := Lib.hid (HN.out.below HB2.out.bel)
      have hPut := mPut_any b off c cg sn l A' tiles w2 HNA.out.1 HNA.out.2 (by omega) ((HRI.out.below HB2.out.bel).mono HB2.out.bel.size) HSO.out HLN.out
      go_wp2_with fail
      refine hPut.mono ?_
      rintro e w4 ⟨A4, c4, rfl, ho4, hb4⟩
      have HB4 := Lib.hid (HB2.out.step (hb4.mono HB2.out.siz))
      have HO4 := Lib.hid (OwnN.lower (base' := w.heap.size + 1 + 1 + 1) HB2.out.siz ho4)
      clear hb4 ho4 p0 g0 g1 r0 r1 r2 f0 f1 f2 hPut
      obtain ⟨p0, g0, g1, r0, r1, r2, f0, f1, f2, hz4, _⟩ := HB4.out
      generalize putR l sn tiles = R at *
      obtain ⟨rc, rr, rl⟩ := R
      simp only at HO4
      go_wp2_with fail
      rw [HR.out]
      refine bodyPost_ret (v := .agg #[.slice A4 rl.length c4, .int .i64 rr, .int .i64 rc]) (by simp [results, Tryd.results16, go_sem, r0, r1, r2]) rfl ⟨A4, c4, rfl, ?_, ?_⟩
      · exact OwnN.lower (base := w.heap.size + 1 + 1 + 1) (by omega) (OwnN.set_below (by show w.heap.size + 1 + 1 < _; omega) _ (OwnN.set_below (by show w.heap.size + 1 + 1 < _; omega) _ (OwnN.set_below (by show w.heap.size + 1 + 1 < _; omega) _ HO4.out)))
      · exact ((HB4.out.bel.setCell (by simp; omega) _).setCell (by simp; omega) _).setCell (by simp; omega) _
end Go.Proofs.YtoobkajilbmdhaaDoor

namespace Go.Proofs.YtoobkajilbmdhaaDoor
open Go.RowKit
set_option linter.unusedVariables false
set_option linter.unusedSimpArgs false

set_option maxRecDepth 100000 in
set_option maxHeartbeats 2000000 in
theorem mPut_nil (cg sn : Nat) (A' : Option Addr) (tiles : List Int) (w : World) (hri : RI w w.heap.size A' tiles) (hs : sideOk (sn : Int) = true) (htl : tiles.length = sn * sn) :
    Calls Tryd.prog 57 #[.agg #[.slice none 0 0], .agg #[.int .i64 sn, .slice A' tiles.length cg]] w (POut w (putR [] sn tiles)) := by
  obtain ⟨i0, hi, hz0, hz1, hz2⟩ := info_parts Tryd.infoNode
  obtain ⟨sn', e1, hs8, hpw, hd3⟩ := pow_dbl hs
  obtain rfl : sn = sn' := by omega
  have HRI := Lib.hid hri
  have HTL := Lib.hid htl
  have HPW := Lib.hid hpw
  have HD3 := Lib.hid hd3
  clear hri htl hpw hd3 e1 hs
  go_enter Tryd.func57, Tryd.ntmps57
  have hbw : Below w.heap.size w ((((w.alloc (.cells #[.slice none 0 0] 25)).alloc (.cells #[.int .i64 sn, .slice A' tiles.length cg] 28)).alloc (.cells #[.slice none 0 0, .int .i64 0, .int .i64 0] 32)).alloc (.cells #[] 84)) := ((((Below.refl _ _).alloc (Nat.le_refl _) _).alloc (by simp) _).alloc (by simp; omega) _).alloc (by simp; omega) _
  have hol := (OwnN.lit0 (w := ((w.alloc (.cells #[.slice none 0 0] 25)).alloc (.cells #[.int .i64 sn, .slice A' tiles.length cg] 28)).alloc (.cells #[.slice none 0 0, .int .i64 0, .int .i64 0] 32)) (base := w.heap.size + 1 + 1 + 1) (by simp))
  simp only [alloc_size] at hol
  have HOL := Lib.hid hol
  clear hol
  have HBX0 := Lib.hid ((BX.made w sn (.slice A' tiles.length cg) (.slice none 0 0)).step ((Below.refl _ _).alloc (by simp) (.cells #[] 84)))
  have hsz : ((((w.alloc (.cells #[.slice none 0 0] 25)).alloc (.cells #[.int .i64 sn, .slice A' tiles.length cg] 28)).alloc (.cells #[.slice none 0 0, .int .i64 0, .int .i64 0] 32)).alloc (.cells #[] 84)).heap.size = w.heap.size + 1 + 1 + 1 + 1 := by simp
  have HBX := Lib.hid (HBX0.out.step ((Below.refl _ _).alloc HBX0.out.siz (.cells #[.slice (some ⟨w.heap.size + 1 + 1 + 1, 0, none⟩) 0 0] 25)))
  have g0 := HBX.out.g0
  have g1 := HBX.out.g1
  have HPS : Hid (PS (w.heap.size + 1 + 1 + 1) (w.heap.size + 1 + 1 + 1 + 1) (.slice (some ⟨w.heap.size + 1 + 1 + 1, 0, none⟩) 0 0) [] (((((w.alloc (.cells #[.slice none 0 0] 25)).alloc (.cells #[.int .i64 sn, .slice A' tiles.length cg] 28)).alloc (.cells #[.slice none 0 0, .int .i64 0, .int .i64 0] 32)).alloc (.cells #[] 84)).alloc (.cells #[.slice (some ⟨w.heap.size + 1 + 1 + 1, 0, none⟩) 0 0] 25))) :=
    PS.mk (by simp [go_sem]) (by simp [go_sem]) (HOL.out.alloc _) (by omega) (by simp) (fun e => by have h9 : w.heap.size + 1 + 1 + 1 = w.heap.size + 1 + 1 + 1 + 1 := Option.some.inj e; omega)
  have HRW : Hid (RI (((((w.alloc (.cells #[.slice none 0 0] 25)).alloc (.cells #[.int .i64 sn, .slice A' tiles.length cg] 28)).alloc (.cells #[.slice none 0 0, .int .i64 0, .int .i64 0] 32)).alloc (.cells #[] 84)).alloc (.cells #[.slice (some ⟨w.heap.size + 1 + 1 + 1, 0, none⟩) 0 0] 25)) (w.heap.size + 1 + 1 + 1) A' tiles) := (HRI.out.below HBX.out.bel).mono (by omega)
  have hsz2 : (((((w.alloc (.cells #[.slice none 0 0] 25)).alloc (.cells #[.int .i64 sn, .slice A' tiles.length cg] 28)).alloc (.cells #[.slice none 0 0, .int .i64 0, .int .i64 0] 32)).alloc (.cells #[] 84)).alloc (.cells #[.slice (some ⟨w.heap.size + 1 + 1 + 1, 0, none⟩) 0 0] 25)).heap.size = w.heap.size + 1 + 1 + 1 + 1 + 1 := by simp
  clear HOL HBX0 hbw hsz
  go_wp2_with fail
  generalize ((((w.alloc (.cells #[.slice none 0 0] 25)).alloc (.cells #[.int .i64 sn, .slice A' tiles.length cg] 28)).alloc (.cells #[.slice none 0 0, .int .i64 0, .int .i64 0] 32)).alloc (.cells #[] 84)).alloc (.cells #[.slice (some ⟨w.heap.size + 1 + 1 + 1, 0, none⟩) 0 0] 25) = w2 at *
  have hsq := mSquare_any sn tiles hs8 HTL.out (dbl sn) (w.heap.size + 1 + 1 + 1) (w.heap.size + 1 + 1 + 1 + 1) 0 0 cg (.slice (some ⟨w.heap.size + 1 + 1 + 1, 0, none⟩) 0 0) [] A' w2 HD3.out (by rw [HPW.out]; omega) (by rw [HPW.out]; omega) HPS.out HRW.out (by have := cnt_le HD3.out; simp; omega)
  rw [HPW.out] at hsq
  simp only [Int.natCast_zero] at hsq
  refine hsq.mono ?_
  rintro e w3 ⟨rfl, v3, hp3, hg3⟩
  have HB3 := Lib.hid (HBX.out.step (hg3.base (by omega) (by omega) (by omega) (fun k hk => (HPS.out.own.lt k hk).1)))
  have HP3 := Lib.hid hp3
  have HR : Hid (putR [] sn tiles = if (msq (tileF sn tiles) (dbl sn) 0 0 []).1.length ≤ 200 then ((0, ((msq (tileF sn tiles) (dbl sn) 0 0 []).2 : Int), (msq (tileF sn tiles) (dbl sn) 0 0 []).1) : Int × Int × List Nd) else (9, 0, [])) := by exact (rfl : putR [] sn tiles = _)
  have HLL : Hid ((msq (tileF sn tiles) (dbl sn) 0 0 []).1.length ≤ 2000) := by have h1 := msq_len (tileF sn tiles) (dbl sn) 0 0 []; have h2 := cnt_le HD3.out; have h3 : ([] : List Nd).length = 0 := rfl; show _ ≤ _; omega
  clear hsq hp3 hg3 HPS HRW HBX g0 g1
  generalize msq (tileF sn tiles) (dbl sn) 0 0 [] = R at *
  obtain ⟨l3, r3⟩ := R
  simp only at HP3 HR HLL
  obtain ⟨A3, c3, rfl⟩ := HP3.out.own.form
  have k0 := HP3.out.c0
  obtain ⟨_, _, r0, r1, r2, f0, f1, f2, hz3, _⟩ := HB3.out
  by_cases h200 : l3.length ≤ 200
  · have hd : decide ((200 : Int) < (l3.length : Int)) = false := by simp; omega
    rw [if_pos h200] at HR
    have hne : ¬ (w.heap.size + 1 + 1 + 1 + 1 = w.heap.size + 1 + 1) := by omega
    go_wp2_with fail
    rw [HR.out]
    refine bodyPost_ret (v := .agg #[.slice A3 l3.length c3, .int .i64 r3, .int .i64 0]) (by simp [results, Tryd.results57, go_sem, r0, r1, r2]) rfl ⟨A3, c3, rfl, ?_, ?_⟩
    · exact OwnN.lower (base := w.heap.size + 1 + 1 + 1) (by omega) (OwnN.set_below (by show w.heap.size + 1 + 1 < _; omega) _ (OwnN.set_below (by show w.heap.size + 1 + 1 < _; omega) _ (OwnN.set_below (by show w.heap.size + 1 + 1 < _; omega) _ HP3.out.own)))
    · exact ((HB3.out.bel.setCell (by simp; omega) _).setCell (by simp; omega) _).setCell (by simp; omega) _
  · have hd : decide ((200 : Int) < (l3.length : Int)) = true := by simp; omega
    rw [if_neg h200] at HR
    have hIll := mPIll_any 9
    go_wp2_with fail
    refine (hIll _).mono ?_
    rintro e w4 ⟨rfl, hb4⟩
    have HB4 := Lib.hid (HB3.out.step (hb4.mono (by omega)))
    clear hb4 r0 r1 r2 f0 f1 f2
    obtain ⟨_, _, r0, r1, r2, f0, f1, f2, hz4, _⟩ := HB4.out
    go_wp2_with fail
    rw [HR.out]
    refine bodyPost_ret (v := .agg #[.slice none 0 0, .int .i64 0, .int .i64 9]) (by simp [results, Tryd.results57, go_sem, r0, r1, r2]) rfl ⟨none, 0, rfl, OwnN.nil _ _, ?_⟩
    exact ((HB4.out.bel.setCell (by simp; omega) _).setCell (by simp; omega) _).setCell (by simp; omega) _

set_option maxRecDepth 100000 in
set_option maxHeartbeats 2000000 in
theorem mPoolPut_nil (cg : Nat) (side : Int) (A' : Option Addr) (tiles : List Int) (w : World) (hri : RI w w.heap.size A' tiles) (htl : tiles.length ≤ 1048576) :
    Calls Tryd.prog 16 #[.agg #[.slice none 0 0], .agg #[.int .i64 side, .slice A' tiles.length cg]] w (POut w (putP [] side tiles)) := by
  have HRI := Lib.hid hri
  have HB0 := Lib.hid (BY.made w (.slice none 0 0) side (.slice A' tiles.length cg))
  have hPR := fun w h => mPoolRight_any none 0 [] w h (by simp)
  have hGR := fun w h => mRight_any side A' cg tiles w h (by omega)
  have hIll := mPIll_any 1
  clear hri
  have hsz0 := HB0.out.siz
  cases hr : poolRight []
  · rw [hr] at hPR
    have HR : Hid (putP [] side tiles = (1, 0, [])) := by show _ = _; simp [putP, hr]
    clear hr
    go_enter Tryd.func16, Tryd.ntmps16
    go_wp2_with fail
    refine (hPR _ (.inl rfl)).mono ?_
    rintro e w1 ⟨rfl, hb1⟩
    have HB1 := Lib.hid (HB0.out.step (hb1.mono hsz0))
    obtain ⟨p0, g0, g1, r0, r1, r2, f0, f1, f2, hz1, _⟩ := HB1.out
    clear hb1
    go_wp2_with fail
    refine (hIll _).mono ?_
    rintro e w4 ⟨rfl, hb4⟩
    have HB4 := Lib.hid (HB1.out.step (hb4.mono HB1.out.siz))
    clear hb4 p0 g0 g1 r0 r1 r2 f0 f1 f2
    obtain ⟨p0, g0, g1, r0, r1, r2, f0, f1, f2, hz4, _⟩ := HB4.out
    go_wp2_with fail
    rw [HR.out]
    refine bodyPost_ret (v := .agg #[.slice none 0 0, .int .i64 0, .int .i64 1]) (by simp [results, Tryd.results16, go_sem, r0, r1, r2]) rfl ⟨none, 0, rfl, OwnN.nil _ _, ?_⟩
    exact ((HB4.out.bel.setCell (by simp; omega) _).setCell (by simp; omega) _).setCell (by simp; omega) _
  · rw [hr] at hPR
    have h200 := pool_len hr
    cases hg : gridRight side tiles
    · rw [hg] at hGR
      have HR : Hid (putP [] side tiles = (1, 0, [])) := by show _ = _; simp [putP, hg]
      clear hr hg
      go_enter Tryd.func16, Tryd.ntmps16
      go_wp2_with fail
      refine (hPR _ (.inl rfl)).mono ?_
      rintro e w1 ⟨rfl, hb1⟩
      have HB1 := Lib.hid (HB0.out.step (hb1.mono hsz0))
      obtain ⟨p0, g0, g1, r0, r1, r2, f0, f1, f2, hz1, _⟩ := HB1.out
      clear hb1
      go_wp2_with fail
      refine (hGR _ ((HRI.out.below HB1.out.bel).mono HB1.out.bel.size)).mono ?_
      rintro e w2 ⟨rfl, hb2⟩
      have HB2 := Lib.hid (HB1.out.step (hb2.mono HB1.out.siz))
      clear hb2 p0 g0 g1 r0 r1 r2 f0 f1 f2
      go_wp2_with fail
      refine (hIll _).mono ?_
      rintro e w4 ⟨rfl, hb4⟩
      have HB4 := Lib.hid (HB2.out.step (hb4.mono HB2.out.siz))
      clear hb4
      obtain ⟨p0, g0, g1, r0, r1, r2, f0, f1, f2, hz4, _⟩ := HB4.out
      go_wp2_with fail
      rw [HR.out]
      refine bodyPost_ret (v := .agg #[.slice none 0 0, .int .i64 0, .int .i64 1]) (by simp [results, Tryd.results16, go_sem, r0, r1, r2]) rfl ⟨none, 0, rfl, OwnN.nil _ _, ?_⟩
      exact ((HB4.out.bel.setCell (by simp; omega) _).setCell (by simp; omega) _).setCell (by simp; omega) _
    · rw [hg] at hGR
      obtain ⟨sn, rfl, hs1, hs8, hln⟩ := right_nat hg
      have HSO := Lib.hid (right_parts hg).1
      have HLN := Lib.hid hln
      have HR : Hid (putP [] sn tiles = putR [] sn tiles) := by show _ = _; simp [putP, putR, hg, hr]
      clear hr hg hln
      go_enter Tryd.func16, Tryd.ntmps16
      go_wp2_with fail
      refine (hPR _ (.inl rfl)).mono ?_
      rintro e w1 ⟨rfl, hb1⟩
      have HB1 := Lib.hid (HB0.out.step (hb1.mono hsz0))
      obtain ⟨p0, g0, g1, r0, r1, r2, f0, f1, f2, hz1, _⟩ := HB1.out
      clear hb1
      go_wp2_with fail
      refine (hGR _ ((HRI.out.below HB1.out.bel).mono HB1.out.bel.size)).mono ?_
      rintro e w2 ⟨rfl, hb2⟩
      have HB2 := Lib.hid (HB1.out.step (hb2.mono HB1.out.siz))
      clear hb2 p0 g0 g1 r0 r1 r2 f0 f1 f2
      obtain ⟨p0, g0, g1, r0, r1, r2, f0, f1, f2, hz2, _⟩ := HB2.out
      have hPut := mPut_nil cg sn A' tiles w2 ((HRI.out.below HB2.out.bel).mono HB2.out.bel.size) HSO.out HLN.out
      go_wp2_with fail
      refine hPut.mono ?_
      rintro e w4 ⟨A4, c4, rfl, ho4, hb4⟩
      have HB4 := Lib.hid (HB2.out.step (hb4.mono HB2.out.siz))
      have HO4 := Lib.hid (OwnN.lower (base' := w.heap.size + 1 + 1 + 1) HB2.out.siz ho4)
      clear hb4 ho4 p0 g0 g1 r0 r1 r2 f0 f1 f2 hPut
      obtain ⟨p0, g0, g1, r0, r1, r2, f0, f1, f2, hz4, _⟩ := HB4.out
      generalize putR [] sn tiles = R at *
      obtain ⟨rc, rr, rl⟩ := R
      simp only at HO4
      go_wp2_with fail
      rw [HR.out]
      refine bodyPost_ret (v := .agg #[.slice A4 rl.length c4, .int .i64 rr, .int .i64 rc]) (by simp [results, Tryd.results16, go_sem, r0, r1, r2]) rfl ⟨A4, c4, rfl, ?_, ?_⟩
      · exact OwnN.lower (base := w.heap.size + 1 + 1 + 1) (by omega) (OwnN.set_below (by show w.heap.size + 1 + 1 < _; omega) _ (OwnN.set_below (by show w.heap.size + 1 + 1 < _; omega) _ (OwnN.set_below (by show w.heap.size + 1 + 1 < _; omega) _ HO4.out)))
      · exact ((HB4.out.bel.setCell (by simp; omega) _).setCell (by simp; omega) _).setCell (by simp; omega) _
end Go.Proofs.YtoobkajilbmdhaaDoor

namespace Go.Proofs.YtoobkajilbmdhaaDoor
open Go.RowKit
set_option linter.unusedVariables false
set_option linter.unusedSimpArgs false

/-- Nodes that may stand together, however many. -/
def pOk (l : List Nd) : Prop := ∀ j (h : j < l.length), nodeOk l j l[j] = true ∧ findN l l[j] = (j : Int)
theorem pOk_right {l : List Nd} : poolRight l = true ↔ l.length ≤ 200 ∧ pOk l := by
  rw [poolRight, decide_eq_true_iff]
  exact Iff.rfl
section
variable {l : List Nd}
theorem pOk.uniq (h : pOk l) {i j : Nat} (hi : i < l.length) (hj : j < l.length) (e : l[i] = l[j]) : i = j := by
  have h1 := (h i hi).2
  have h2 := (h j hj).2
  rw [e, h2] at h1
  omega
theorem pOk.leaf (h : pOk l) {k : Nat} (hk : k < l.length) (hs : leafN l[k] = true) : l[k] = leafOfT l[k].tile ∧ 0 ≤ l[k].tile ∧ l[k].tile ≤ 9 := by
  have h1 := (h k hk).1
  unfold nodeOk at h1
  rw [hs] at h1
  simp only [if_true, leafOk, Bool.and_eq_true, beq_iff_eq] at h1
  obtain ⟨⟨⟨⟨h2, h3⟩, h4⟩, h5⟩, h6⟩ := h1
  refine ⟨?_, (tileOk_iff _).1 h2⟩
  rw [Nd.eq_iff]
  exact ⟨rfl, h3, h4, h5, h6⟩
theorem pOk.split (h : pOk l) {k : Nat} (hk : k < l.length) (hs : leafN l[k] = false) :
    (l[k].tile = -1 ∧ (0 ≤ l[k].a ∧ l[k].a < k) ∧ (0 ≤ l[k].b ∧ l[k].b < k) ∧ (0 ≤ l[k].c ∧ l[k].c < k) ∧ (0 ≤ l[k].d ∧ l[k].d < k)) ∧
    (l[k].a = l[k].b → l[k].b = l[k].c → l[k].c = l[k].d → leafN (ndAt l l[k].a.toNat) = false) := by
  have h1 := (h k hk).1
  refine ⟨ok_split h1 hs, fun e1 e2 e3 => ?_⟩
  unfold nodeOk at h1
  rw [hs] at h1
  simp only [Bool.false_eq_true, if_false, Bool.and_eq_true] at h1
  have h2 := h1.2
  unfold unlike at h2
  rw [e1, e2, e3] at h2
  simp only [bne_self_eq_false, Bool.false_or, Bool.not_eq_true'] at h2
  rw [e1, e2, e3]
  exact h2
theorem pOk.below (h : pOk l) {k q : Nat} (hk : k < l.length) (hs : leafN l[k] = false) (hq : q ∈ qs l[k]) : q < k ∧ (hts l).getD q 0 + 1 ≤ (hts l).getD k 0 := by
  obtain ⟨⟨_, h1, h2, h3, h4⟩, _⟩ := h.split hk hs
  have hlt : q < k := by
    simp only [qs, List.mem_cons, List.not_mem_nil, or_false] at hq
    omega
  refine ⟨hlt, ?_⟩
  rw [ht_last hk, hts_at l k q (by omega) hlt]
  unfold hStep
  rw [hs]
  simp only [Bool.false_eq_true, if_false]
  simp only [qs, List.mem_cons, List.not_mem_nil, or_false] at hq
  rcases hq with rfl | rfl | rfl | rfl <;> omega
theorem tile_split {e k : Nat} (hk : k < l.length) (hs : leafN l[k] = false) (x y : Nat) : tileN l (e + 1) k x y = tileN l e (quarter l[k] (2 ^ e) x y) (x % 2 ^ e) (y % 2 ^ e) := by
  rw [tileN, ndAt_eq hk, if_neg (by rw [hs]; simp)]
theorem four_tiles {e k : Nat} (hk : k < l.length) (hs : leafN l[k] = false) {i j : Nat} (hi : i < 2 ^ e) (hj : j < 2 ^ e) :
    tileN l (e + 1) k i j = tileN l e l[k].a.toNat i j ∧ tileN l (e + 1) k (i + 2 ^ e) j = tileN l e l[k].b.toNat i j ∧ tileN l (e + 1) k i (j + 2 ^ e) = tileN l e l[k].c.toNat i j ∧ tileN l (e + 1) k (i + 2 ^ e) (j + 2 ^ e) = tileN l e l[k].d.toNat i j := by
  have m1 : i % 2 ^ e = i := Nat.mod_eq_of_lt hi
  have m2 : j % 2 ^ e = j := Nat.mod_eq_of_lt hj
  have m3 : (i + 2 ^ e) % 2 ^ e = i := by rw [Nat.add_mod_right, m1]
  have m4 : (j + 2 ^ e) % 2 ^ e = j := by rw [Nat.add_mod_right, m2]
  have q1 : quarter l[k] (2 ^ e) i j = l[k].a.toNat := by
    unfold quarter
    rw [if_neg (by omega), if_neg (by omega), if_neg (by omega)]
  have q2 : quarter l[k] (2 ^ e) (i + 2 ^ e) j = l[k].b.toNat := by
    unfold quarter
    rw [if_neg (by omega), if_neg (by omega), if_pos (by omega)]
  have q3 : quarter l[k] (2 ^ e) i (j + 2 ^ e) = l[k].c.toNat := by
    unfold quarter
    rw [if_neg (by omega), if_pos (by omega)]
  have q4 : quarter l[k] (2 ^ e) (i + 2 ^ e) (j + 2 ^ e) = l[k].d.toNat := by
    unfold quarter
    rw [if_pos (by omega)]
  refine ⟨?_, ?_, ?_, ?_⟩ <;> rw [tile_split hk hs]
  · rw [q1, m1, m2]
  · rw [q2, m3, m2]
  · rw [q3, m1, m4]
  · rw [q4, m3, m4]
theorem tile_leaf {d k x y : Nat} (hk : k < l.length) (hs : leafN l[k] = true) : tileN l d k x y = l[k].tile := by
  have := tileN_leaf (l := l) (d := d) (node := k) (x := x) (y := y) (by rw [ndAt_eq hk]; exact hs)
  rw [this, ndAt_eq hk]
/-- A node whose map is one tile is a leaf; two nodes whose maps are alike are one. -/
theorem same_all (h : pOk l) : ∀ d : Nat, (∀ k (hk : k < l.length) (t : Int), (hts l).getD k 0 ≤ d → (∀ x y, x < 2 ^ d → y < 2 ^ d → tileN l d k x y = t) → leafN l[k] = true) ∧
    (∀ k m (hk : k < l.length) (hm : m < l.length), (hts l).getD k 0 ≤ d → (hts l).getD m 0 ≤ d → (∀ x y, x < 2 ^ d → y < 2 ^ d → tileN l d k x y = tileN l d m x y) → k = m) := by
  have leaf0 : ∀ k (hk : k < l.length), (hts l).getD k 0 ≤ (0 : Nat) → leafN l[k] = true := by
    intro k hk h0
    cases hs : leafN l[k]
    · have h1 := h.below hk hs (q := l[k].a.toNat) (by simp [qs])
      have h2 := ht_nn (l := l) (k := l[k].a.toNat) (by omega)
      omega
    · rfl
  have both : ∀ (d k m : Nat) (hk : k < l.length) (hm : m < l.length), leafN l[k] = true → leafN l[m] = true → tileN l d k 0 0 = tileN l d m 0 0 → k = m := by
    intro d k m hk hm s1 s2 e
    rw [tile_leaf hk s1, tile_leaf hm s2] at e
    refine h.uniq hk hm ?_
    rw [(h.leaf hk s1).1, (h.leaf hm s2).1, e]
  intro d
  induction d with
  | zero => exact ⟨fun k hk t h0 _ => leaf0 k hk h0, fun k m hk hm h1 h2 he => both 0 k m hk hm (leaf0 k hk h1) (leaf0 m hm h2) (he 0 0 (by simp) (by simp))⟩
  | succ e ih =>
    obtain ⟨ihA, ihB⟩ := ih
    have hp : 0 < 2 ^ e := Nat.pos_of_ne_zero (by simp)
    have e2 : 2 ^ (e + 1) = 2 ^ e + 2 ^ e := by rw [Nat.pow_succ]; omega
    have hA : ∀ k (hk : k < l.length) (t : Int), (hts l).getD k 0 ≤ ((e + 1 : Nat) : Int) → (∀ x y, x < 2 ^ (e + 1) → y < 2 ^ (e + 1) → tileN l (e + 1) k x y = t) → leafN l[k] = true := by
      intro k hk t hh hu
      cases hs : leafN l[k]
      case true => rfl
      obtain ⟨⟨_, a1, b1, c1, d1⟩, hun⟩ := h.split hk hs
      have ba := h.below hk hs (q := l[k].a.toNat) (by simp [qs])
      have bb := h.below hk hs (q := l[k].b.toNat) (by simp [qs])
      have bc := h.below hk hs (q := l[k].c.toNat) (by simp [qs])
      have bd := h.below hk hs (q := l[k].d.toNat) (by simp [qs])
      have ta : ∀ x y, x < 2 ^ e → y < 2 ^ e → tileN l e l[k].a.toNat x y = t := fun x y hx hy => (four_tiles hk hs hx hy).1 ▸ hu x y (by omega) (by omega)
      have tb : ∀ x y, x < 2 ^ e → y < 2 ^ e → tileN l e l[k].b.toNat x y = t := fun x y hx hy => (four_tiles hk hs hx hy).2.1 ▸ hu _ _ (by omega) (by omega)
      have tc : ∀ x y, x < 2 ^ e → y < 2 ^ e → tileN l e l[k].c.toNat x y = t := fun x y hx hy => (four_tiles hk hs hx hy).2.2.1 ▸ hu _ _ (by omega) (by omega)
      have td : ∀ x y, x < 2 ^ e → y < 2 ^ e → tileN l e l[k].d.toNat x y = t := fun x y hx hy => (four_tiles hk hs hx hy).2.2.2 ▸ hu _ _ (by omega) (by omega)
      have r1 := ihB _ _ (by omega) (by omega) (by omega) (by omega) (fun x y hx hy => (ta x y hx hy).trans (tb x y hx hy).symm)
      have r2 := ihB _ _ (by omega) (by omega) (by omega) (by omega) (fun x y hx hy => (tb x y hx hy).trans (tc x y hx hy).symm)
      have r3 := ihB _ _ (by omega) (by omega) (by omega) (by omega) (fun x y hx hy => (tc x y hx hy).trans (td x y hx hy).symm)
      have hlf := ihA _ (by omega) t (by omega) ta
      have := hun (by omega) (by omega) (by omega)
      rw [ndAt_eq (by omega), hlf] at this
      cases this
    refine ⟨hA, fun k m hk hm hhk hhm he => ?_⟩
    cases s1 : leafN l[k]
    · cases s2 : leafN l[m]
      · have bk := fun q hq => h.below hk s1 (q := q) hq
        have bm := fun q hq => h.below hm s2 (q := q) hq
        obtain ⟨⟨t1, a1, b1, c1, d1⟩, _⟩ := h.split hk s1
        obtain ⟨⟨t2, a2, b2, c2, d2⟩, _⟩ := h.split hm s2
        have k1 := bk l[k].a.toNat (by simp [qs]); have k2 := bk l[k].b.toNat (by simp [qs]); have k3 := bk l[k].c.toNat (by simp [qs]); have k4 := bk l[k].d.toNat (by simp [qs])
        have m1 := bm l[m].a.toNat (by simp [qs]); have m2 := bm l[m].b.toNat (by simp [qs]); have m3 := bm l[m].c.toNat (by simp [qs]); have m4 := bm l[m].d.toNat (by simp [qs])
        have r1 := ihB l[k].a.toNat l[m].a.toNat (by omega) (by omega) (by omega) (by omega) (fun x y hx hy => by rw [← (four_tiles hk s1 hx hy).1, ← (four_tiles hm s2 hx hy).1]; exact he _ _ (by omega) (by omega))
        have r2 := ihB l[k].b.toNat l[m].b.toNat (by omega) (by omega) (by omega) (by omega) (fun x y hx hy => by rw [← (four_tiles hk s1 hx hy).2.1, ← (four_tiles hm s2 hx hy).2.1]; exact he _ _ (by omega) (by omega))
        have r3 := ihB l[k].c.toNat l[m].c.toNat (by omega) (by omega) (by omega) (by omega) (fun x y hx hy => by rw [← (four_tiles hk s1 hx hy).2.2.1, ← (four_tiles hm s2 hx hy).2.2.1]; exact he _ _ (by omega) (by omega))
        have r4 := ihB l[k].d.toNat l[m].d.toNat (by omega) (by omega) (by omega) (by omega) (fun x y hx hy => by rw [← (four_tiles hk s1 hx hy).2.2.2, ← (four_tiles hm s2 hx hy).2.2.2]; exact he _ _ (by omega) (by omega))
        refine h.uniq hk hm ?_
        rw [Nd.eq_iff]
        exact ⟨by omega, by omega, by omega, by omega, by omega⟩
      · have := hA k hk l[m].tile hhk (fun x y hx hy => (he x y hx hy).trans (tile_leaf hm s2))
        rw [s1] at this
        cases this
    · cases s2 : leafN l[m]
      · have := hA m hm l[k].tile hhm (fun x y hx hy => (he x y hx hy).symm.trans (tile_leaf hk s1))
        rw [s2] at this
        cases this
      · exact both (e + 1) k m hk hm s1 s2 (he 0 0 (by omega) (by omega))
/-- What stands ahead of other nodes stays what it is. -/
theorem nodeOk_app (t : List Nd) {j : Nat} {n : Nd} (hj : j ≤ l.length) (h : nodeOk l j n = true) : nodeOk (l ++ t) j n = true := by
  cases hs : leafN n
  · have hsp := ok_split h hs
    unfold nodeOk at h ⊢
    rw [hs] at h ⊢
    simp only [Bool.false_eq_true, if_false] at h ⊢
    have e : (l ++ t).getD n.a.toNat ⟨0, 0, 0, 0, 0⟩ = l.getD n.a.toNat ⟨0, 0, 0, 0, 0⟩ := by
      simp only [List.getD]
      rw [List.getElem?_append_left (by omega)]
    have e2 : unlike (l ++ t) n = unlike l n := by unfold unlike; rw [e]
    rw [e2]
    exact h
  · unfold nodeOk at h ⊢
    rw [hs] at h ⊢
    exact h
theorem findN_app (t : List Nd) {x : Nd} {j : Nat} (h : findN l x = j) : findN (l ++ t) x = j := by
  unfold findN at h ⊢
  rw [List.findIdx?_append]
  cases e : l.findIdx? (fun y => y == x) with
  | none => rw [e] at h; simp only at h; omega
  | some k => rw [e] at h; simpa using h
theorem pOk.add (h : pOk l) {x : Nd} (hx : nodeOk l l.length x = true) : pOk (addN l x).1 := by
  unfold addN
  split
  · exact h
  · rename_i hn
    intro j hj
    show nodeOk (l ++ [x]) j (l ++ [x])[j] = true ∧ findN (l ++ [x]) (l ++ [x])[j] = (j : Int)
    by_cases hlt : j < l.length
    · have e : (l ++ [x])[j]'hj = l[j] := List.getElem_append_left hlt
      rw [e]
      exact ⟨nodeOk_app _ (by omega) (h j hlt).1, findN_app _ (h j hlt).2⟩
    · have ej : j = l.length := by simp at hj; omega
      subst ej
      have e : (l ++ [x])[l.length]'hj = x := by simp
      rw [e]
      refine ⟨nodeOk_app _ (Nat.le_refl _) hx, ?_⟩
      unfold findN
      rw [List.findIdx?_append, hn]
      simp
theorem hts_app (t : List Nd) {k : Nat} (hk : k < l.length) : (hts (l ++ t)).getD k 0 = (hts l).getD k 0 := by
  rw [hts_at (l ++ t) (k + 1) k (by simp; omega) (by omega), hts_at l (k + 1) k (by omega) (by omega), List.take_append_of_le_length (by omega)]
theorem ndAt_app (t : List Nd) {k : Nat} (hk : k < l.length) : ndAt (l ++ t) k = ndAt l k := by
  simp only [ndAt, List.getD]
  rw [List.getElem?_append_left hk]
theorem tileN_app (h : pOk l) (t : List Nd) : ∀ (d k x y : Nat), k < l.length → tileN (l ++ t) d k x y = tileN l d k x y
  | 0, k, x, y, hk => by rw [tileN, tileN, ndAt_app t hk]
  | d + 1, k, x, y, hk => by
    rw [tileN, tileN, ndAt_app t hk]
    cases hs : leafN (ndAt l k)
    · rw [ndAt_eq hk] at hs ⊢
      have := (h.below hk hs (quarter_mem l[k] (2 ^ d) x y)).1
      exact tileN_app h t d _ _ _ (by omega)
    · rfl
theorem addN_there (h : pOk l) {x : Nd} {r : Nat} (hr : l[r]? = some x) : addN l x = (l, r) := by
  obtain ⟨hlt, he⟩ := List.getElem?_eq_some_iff.1 hr
  have hf := (h r hlt).2
  rw [he] at hf
  unfold findN at hf
  unfold addN
  cases e : l.findIdx? (fun y => y == x) with
  | none => rw [e] at hf; simp only at hf; omega
  | some k =>
    rw [e] at hf
    simp only at hf
    have : k = r := by omega
    subst this
    rfl
end
end Go.Proofs.YtoobkajilbmdhaaDoor

namespace Go.Proofs.YtoobkajilbmdhaaDoor
open Go.RowKit
set_option linter.unusedVariables false
set_option linter.unusedSimpArgs false

theorem ht_leaf {l : List Nd} {k : Nat} (hk : k < l.length) (hs : leafN l[k] = true) : (hts l).getD k 0 = 0 := by
  rw [ht_last hk]
  unfold hStep
  rw [hs]
  rfl
theorem lift_app {l l' : List Nd} (h : pOk l) (hp : ∃ t, l' = l ++ t) {r : Nat} (hr : r < l.length) : r < l'.length ∧ (hts l').getD r 0 = (hts l).getD r 0 ∧ ∀ d i j, tileN l' d r i j = tileN l d r i j := by
  obtain ⟨t, rfl⟩ := hp
  exact ⟨by simp; omega, hts_app t hr, fun d i j => tileN_app h t d r i j hr⟩
theorem add_parts {l : List Nd} (x : Nd) : ∃ hr : (addN l x).2 < (addN l x).1.length, (addN l x).1[(addN l x).2] = x :=
  List.getElem?_eq_some_iff.1 (addN_at l x)
/-- What the nodes of a square that was put are like. -/
def PutAs (T : Nat → Nat → Int) (d x y : Nat) (R : List Nd × Nat) : Prop := pOk R.1 ∧ R.2 < R.1.length ∧ (hts R.1).getD R.2 0 ≤ d ∧ ∀ i j, i < 2 ^ d → j < 2 ^ d → tileN R.1 d R.2 i j = T (x + i) (y + j)
theorem put_uni {T : Nat → Nat → Int} (hT : ∀ x y, 0 ≤ T x y ∧ T x y ≤ 9) {d x y : Nat} (hu : uni T x y (2 ^ d)) {l : List Nd} (h : pOk l) : PutAs T d x y (addN l (leafOfT (T x y))) := by
  have h0 := hT x y
  have hn : nodeOk l l.length (leafOfT (T x y)) = true := by
    have hlf : leafN (leafOfT (T x y)) = true := by simp [leafN, leafOfT, h0.1]
    unfold nodeOk
    rw [hlf]
    simp [leafOk, leafOfT, (tileOk_iff _).2 h0]
  obtain ⟨hr, he⟩ := add_parts (l := l) (leafOfT (T x y))
  have hs : leafN (addN l (leafOfT (T x y))).1[(addN l (leafOfT (T x y))).2] = true := by rw [he]; simp [leafN, leafOfT, h0.1]
  refine ⟨h.add hn, hr, ?_, fun i j hi hj => ?_⟩
  · rw [ht_leaf hr hs]
    omega
  · rw [tile_leaf hr hs, he, hu i j hi hj]
    rfl
theorem put_all {T : Nat → Nat → Int} (hT : ∀ x y, 0 ≤ T x y ∧ T x y ≤ 9) : ∀ (d x y : Nat) (l : List Nd), pOk l → PutAs T d x y (msq T d x y l)
  | 0, x, y, l, h => put_uni hT (d := 0) (uni_one T x y) h
  | d + 1, x, y, l, h => by
    rw [msq]
    by_cases hu : uniB T x y (2 ^ (d + 1)) = true
    · rw [if_pos hu]
      exact put_uni hT ((uniB_iff _ _ _ _).1 hu) h
    · rw [if_neg hu]
      simp only
      obtain ⟨pA, rA, hA, tA⟩ := put_all hT d x y l h
      have prB := msq_pre T d (x + 2 ^ d) y (msq T d x y l).1
      obtain ⟨pB, rB, hB, tB⟩ := put_all hT d (x + 2 ^ d) y (msq T d x y l).1 pA
      generalize hAe : msq T d x y l = A at *
      generalize hBe : msq T d (x + 2 ^ d) y A.1 = B at *
      have prC := msq_pre T d x (y + 2 ^ d) B.1
      obtain ⟨pC, rC, hC, tC⟩ := put_all hT d x (y + 2 ^ d) B.1 pB
      generalize hCe : msq T d x (y + 2 ^ d) B.1 = C at *
      have prE := msq_pre T d (x + 2 ^ d) (y + 2 ^ d) C.1
      obtain ⟨pE, rE, hE, tE⟩ := put_all hT d (x + 2 ^ d) (y + 2 ^ d) C.1 pC
      generalize hEe : msq T d (x + 2 ^ d) (y + 2 ^ d) C.1 = E at *
      clear hAe hBe hCe hEe
      obtain ⟨uA, vA, wA⟩ := lift_app pA (pre_trans (pre_trans prB prC) prE) rA
      obtain ⟨uB, vB, wB⟩ := lift_app pB (pre_trans prC prE) rB
      obtain ⟨uC, vC, wC⟩ := lift_app pC prE rC
      have hp : 0 < 2 ^ d := Nat.pos_of_ne_zero (by simp)
      have e2 : 2 ^ (d + 1) = 2 ^ d + 2 ^ d := by rw [Nat.pow_succ]; omega
      have four : ∀ (g : Nat → Nat → Int), (∀ i j, i < 2 ^ d → j < 2 ^ d → g i j = T (x + i) (y + j)) → (∀ i j, i < 2 ^ d → j < 2 ^ d → g (i + 2 ^ d) j = T (x + 2 ^ d + i) (y + j)) → (∀ i j, i < 2 ^ d → j < 2 ^ d → g i (j + 2 ^ d) = T (x + i) (y + 2 ^ d + j)) → (∀ i j, i < 2 ^ d → j < 2 ^ d → g (i + 2 ^ d) (j + 2 ^ d) = T (x + 2 ^ d + i) (y + 2 ^ d + j)) → ∀ i j, i < 2 ^ (d + 1) → j < 2 ^ (d + 1) → g i j = T (x + i) (y + j) := by
        intro g g1 g2 g3 g4 i j hi hj
        by_cases ci : i < 2 ^ d
        · by_cases cj : j < 2 ^ d
          · exact g1 i j ci cj
          · have := g3 i (j - 2 ^ d) ci (by omega)
            rw [show j - 2 ^ d + 2 ^ d = j by omega, show y + 2 ^ d + (j - 2 ^ d) = y + j by omega] at this
            exact this
        · by_cases cj : j < 2 ^ d
          · have := g2 (i - 2 ^ d) j (by omega) cj
            rw [show i - 2 ^ d + 2 ^ d = i by omega, show x + 2 ^ d + (i - 2 ^ d) = x + i by omega] at this
            exact this
          · have := g4 (i - 2 ^ d) (j - 2 ^ d) (by omega) (by omega)
            rw [show i - 2 ^ d + 2 ^ d = i by omega, show j - 2 ^ d + 2 ^ d = j by omega, show x + 2 ^ d + (i - 2 ^ d) = x + i by omega, show y + 2 ^ d + (j - 2 ^ d) = y + j by omega] at this
            exact this
      obtain ⟨X, hX⟩ : ∃ X : Nd, X = ⟨-1, A.2, B.2, C.2, E.2⟩ := ⟨_, rfl⟩
      have x0 : X.tile = -1 := by rw [hX]
      have x1 : X.a = A.2 := by rw [hX]
      have x2 : X.b = B.2 := by rw [hX]
      have x3 : X.c = C.2 := by rw [hX]
      have x4 : X.d = E.2 := by rw [hX]
      have hsX : leafN X = false := by simp [leafN, x0]
      have hn : nodeOk E.1 E.1.length X = true := by
        unfold nodeOk
        rw [hsX]
        simp only [Bool.false_eq_true, if_false, Bool.and_eq_true]
        refine ⟨?_, ?_⟩
        · have i1 : inIs X.a 0 ((E.1.length : Int) - 1) = true := by simp only [inIs, decide_eq_true_eq, x1]; omega
          have i2 : inIs X.b 0 ((E.1.length : Int) - 1) = true := by simp only [inIs, decide_eq_true_eq, x2]; omega
          have i3 : inIs X.c 0 ((E.1.length : Int) - 1) = true := by simp only [inIs, decide_eq_true_eq, x3]; omega
          have i4 : inIs X.d 0 ((E.1.length : Int) - 1) = true := by simp only [inIs, decide_eq_true_eq, x4]; omega
          unfold splitIn
          rw [i1, i2, i3, i4, x0]
          rfl
        · cases hun : unlike E.1 X
          case true => rfl
          exfalso
          simp only [unlike, Bool.or_eq_false_iff, bne_eq_false_iff_eq, Bool.not_eq_false'] at hun
          obtain ⟨⟨⟨n1, n2⟩, n3⟩, n4⟩ := hun
          rw [x1, x2] at n1
          rw [x2, x3] at n2
          rw [x3, x4] at n3
          rw [x1] at n4
          have q1 : A.2 = B.2 := by omega
          have q2 : A.2 = C.2 := by omega
          have q3 : A.2 = E.2 := by omega
          have hlf : leafN E.1[A.2] = true := by
            have : E.1.getD (A.2 : Int).toNat ⟨0, 0, 0, 0, 0⟩ = E.1[A.2] := by simp [List.getD, uA]
            rwa [this] at n4
          have cA : ∀ i j, tileN E.1 d A.2 i j = E.1[A.2].tile := fun i j => tile_leaf uA hlf
          refine hu ((uniB_iff _ _ _ _).2 ?_)
          have key := four (fun _ _ => E.1[A.2].tile) (fun i j hi hj => by rw [← cA i j, wA]; exact tA i j hi hj) (fun i j hi hj => by rw [← cA i j, q1, wB]; exact tB i j hi hj) (fun i j hi hj => by rw [← cA i j, q2, wC]; exact tC i j hi hj) (fun i j hi hj => by rw [← cA i j, q3]; exact tE i j hi hj)
          intro i j hi hj
          have k0 := key 0 0 (by omega) (by omega)
          simp only [Nat.add_zero] at k0
          rw [← k0]
          exact (key i j hi hj).symm
      rw [← hX]
      have p5 := pE.add hn
      obtain ⟨r5, e5⟩ := add_parts (l := E.1) X
      have pr5 := addN_pre E.1 X
      generalize addN E.1 X = F at *
      obtain ⟨uA, vA', wA'⟩ := lift_app pA (pre_trans (pre_trans (pre_trans prB prC) prE) pr5) rA
      obtain ⟨uB, vB', wB'⟩ := lift_app pB (pre_trans (pre_trans prC prE) pr5) rB
      obtain ⟨uC, vC', wC'⟩ := lift_app pC (pre_trans prE pr5) rC
      obtain ⟨uE, vE', wE'⟩ := lift_app pE pr5 rE
      have hs5 : leafN F.1[F.2] = false := by rw [e5]; exact hsX
      obtain ⟨⟨_, l1, l2, l3, l4⟩, _⟩ := p5.split r5 hs5
      rw [e5, x1] at l1
      rw [e5, x2] at l2
      rw [e5, x3] at l3
      rw [e5, x4] at l4
      refine ⟨p5, r5, ?_, ?_⟩
      · rw [ht_last r5]
        unfold hStep
        rw [hs5]
        simp only [Bool.false_eq_true, if_false]
        rw [e5, x1, x2, x3, x4]
        simp only [Int.toNat_natCast]
        rw [← hts_at F.1 F.2 A.2 (by omega) (by omega), ← hts_at F.1 F.2 B.2 (by omega) (by omega), ← hts_at F.1 F.2 C.2 (by omega) (by omega), ← hts_at F.1 F.2 E.2 (by omega) (by omega), vA', vB', vC', vE']
        omega
      · have ft := fun {i j : Nat} (hi : i < 2 ^ d) (hj : j < 2 ^ d) => four_tiles r5 hs5 hi hj
        rw [e5, x1, x2, x3, x4] at ft
        simp only [Int.toNat_natCast] at ft
        exact four _ (fun i j hi hj => by rw [(ft hi hj).1, wA']; exact tA i j hi hj) (fun i j hi hj => by rw [(ft hi hj).2.1, wB']; exact tB i j hi hj) (fun i j hi hj => by rw [(ft hi hj).2.2.1, wC']; exact tC i j hi hj) (fun i j hi hj => by rw [(ft hi hj).2.2.2, wE']; exact tE i j hi hj)
theorem pre_of {a b c : List Nd} (h : ∃ t, b = a ++ t) (k : ∃ t, c = b ++ t) : ∃ t, c = a ++ t := pre_trans h k
/-- Put again nothing is new, whatever was put since. -/
theorem msq_again (T : Nat → Nat → Int) : ∀ (d x y : Nat) (l l' : List Nd), pOk l' → (∃ t, l' = (msq T d x y l).1 ++ t) → msq T d x y l' = (l', (msq T d x y l).2)
  | 0, x, y, l, l', h, hp => addN_there h (at_pre hp (addN_at l (leafOfT (T x y))))
  | d + 1, x, y, l, l', h, hp => by
    rw [msq, msq]
    rw [msq] at hp
    by_cases hu : uniB T x y (2 ^ (d + 1)) = true
    · rw [if_pos hu] at hp ⊢
      rw [if_pos hu]
      exact addN_there h (at_pre hp (addN_at l (leafOfT (T x y))))
    · rw [if_neg hu] at hp ⊢
      rw [if_neg hu]
      simp only at hp ⊢
      have p4 := addN_pre (msq T d (x + 2 ^ d) (y + 2 ^ d) (msq T d x (y + 2 ^ d) (msq T d (x + 2 ^ d) y (msq T d x y l).1).1).1).1 ⟨-1, (msq T d x y l).2, (msq T d (x + 2 ^ d) y (msq T d x y l).1).2, (msq T d x (y + 2 ^ d) (msq T d (x + 2 ^ d) y (msq T d x y l).1).1).2, (msq T d (x + 2 ^ d) (y + 2 ^ d) (msq T d x (y + 2 ^ d) (msq T d (x + 2 ^ d) y (msq T d x y l).1).1).1).2⟩
      have p3 := msq_pre T d (x + 2 ^ d) (y + 2 ^ d) (msq T d x (y + 2 ^ d) (msq T d (x + 2 ^ d) y (msq T d x y l).1).1).1
      have p2 := msq_pre T d x (y + 2 ^ d) (msq T d (x + 2 ^ d) y (msq T d x y l).1).1
      have p1 := msq_pre T d (x + 2 ^ d) y (msq T d x y l).1
      have hE := pre_trans p4 hp
      have hC := pre_trans p3 hE
      have hB := pre_trans p2 hC
      have hA := pre_trans p1 hB
      rw [msq_again T d x y l l' h hA]
      simp only
      rw [msq_again T d (x + 2 ^ d) y _ l' h hB]
      simp only
      rw [msq_again T d x (y + 2 ^ d) _ l' h hC]
      simp only
      rw [msq_again T d (x + 2 ^ d) (y + 2 ^ d) _ l' h hE]
      simp only
      exact addN_there h (at_pre hp (addN_at _ _))
end Go.Proofs.YtoobkajilbmdhaaDoor

namespace Go.Proofs.YtoobkajilbmdhaaDoor
open Go.RowKit
set_option linter.unusedVariables false
set_option linter.unusedSimpArgs false

set_option maxRecDepth 100000 in
set_option maxHeartbeats 1000000 in
theorem mPoolGet_any (A : Option Addr) (c : Nat) (l : List Nd) (rt side : Int) (w : World) (h : RN w w.heap.size A l) (hl : l.length ≤ 1000000000) :
    Calls Tryd.prog 18 #[.agg #[.slice A l.length c], .int .i64 rt, .int .i64 side] w fun e w' => GOut w w' (getP l rt side).2.1 (getP l rt side).2.2 (getP l rt side).1 e := by
  have HP0 := Lib.hid ((PB.made w A c l h).below ((Below.refl _ _).alloc (Nat.le_refl _) (.cells #[.int .i64 0, .slice none 0 0, .int .i64 0] 37)))
  have HY0 : Hid (GO ((w.alloc (.cells #[.slice A l.length c] 25)).alloc (.cells #[.int .i64 0, .slice none 0 0, .int .i64 0] 37)) (w.heap.size + 1)) := by
    have := GO.made (w.alloc (.cells #[.slice A l.length c] 25)) 37
    rw [alloc_size] at this
    exact this
  have hPR := fun w h => mPoolRight_any A c l w h hl
  have hSd := mSide_any side
  clear h
  cases hr : poolRight l
  · have HE : Hid (getP l rt side = (1, 0, [])) := by show _ = _; simp [getP, hr]
    rw [HE.out]
    rw [hr] at hPR
    clear hr
    go_enter Tryd.func18, Tryd.ntmps18
    go_wp2_with fail
    refine (hPR _ HP0.out.rn).mono ?_
    rintro e w1 ⟨rfl, hb1⟩
    have HP1 := Lib.hid (HP0.out.below hb1)
    have HY1 := Lib.hid (HY0.out.below hb1 (by simp))
    have hz1' : w.heap.size + 1 < w1.heap.size := by have := hb1.size; simp at this; omega
    clear hb1
    go_wp2_with fail
    refine (mIll_any 1 _).mono ?_
    rintro e w4 ⟨rfl, hb4⟩
    have HP4 := Lib.hid (HP1.out.below hb4)
    obtain ⟨c0, c1, c2, f0, f1, f2⟩ := HY1.out.below hb4 hz1'
    clear hb4
    go_wp2
    refine bodyPost_ret (v := .agg #[.int .i64 0, .slice none 0 0, .int .i64 1]) (by simp [results, Tryd.results18, go_sem, c0, c1, c2]) rfl ?_
    exact ⟨none, 0, rfl, OwnI.nil _ _ _ _, ((HP4.out.bel.setCell (by simp) _).setCell (by simp) _).setCell (by simp) _⟩
  · have HR := Lib.hid hr
    rw [hr] at hPR
    cases hs : sideOk side
    · have HE : Hid (getP l rt side = (1, 0, [])) := by show _ = _; simp [getP, hs]
      rw [HE.out]
      rw [hs] at hSd
      clear hr hs
      go_enter Tryd.func18, Tryd.ntmps18
      go_wp2_with fail
      refine (hPR _ HP0.out.rn).mono ?_
      rintro e w1 ⟨rfl, hb1⟩
      have HP1 := Lib.hid (HP0.out.below hb1)
      have HY1 := Lib.hid (HY0.out.below hb1 (by simp))
      have hz1' : w.heap.size + 1 < w1.heap.size := by have := hb1.size; simp at this; omega
      clear hb1
      go_wp2_with fail
      refine (hSd _).mono ?_
      rintro e w2 ⟨rfl, rfl⟩
      go_wp2_with fail
      refine (mIll_any 1 _).mono ?_
      rintro e w4 ⟨rfl, hb4⟩
      have HP4 := Lib.hid (HP1.out.below hb4)
      obtain ⟨c0, c1, c2, f0, f1, f2⟩ := HY1.out.below hb4 hz1'
      clear hb4
      go_wp2
      refine bodyPost_ret (v := .agg #[.int .i64 0, .slice none 0 0, .int .i64 1]) (by simp [results, Tryd.results18, go_sem, c0, c1, c2]) rfl ?_
      exact ⟨none, 0, rfl, OwnI.nil _ _ _ _, ((HP4.out.bel.setCell (by simp) _).setCell (by simp) _).setCell (by simp) _⟩
    · have HE : Hid (getP l rt side = getG l rt side) := by show _ = _; simp [getP, hr, hs]
      rw [HE.out]
      rw [hs] at hSd
      have hG := fun w h => mGet_any A c l rt side w h hr hs
      clear hr hs
      generalize getG l rt side = RES at *
      obtain ⟨C, S, T⟩ := RES
      simp only at hG ⊢
      go_enter Tryd.func18, Tryd.ntmps18
      go_wp2_with fail
      refine (hPR _ HP0.out.rn).mono ?_
      rintro e w1 ⟨rfl, hb1⟩
      have HP1 := Lib.hid (HP0.out.below hb1)
      have HY1 := Lib.hid (HY0.out.below hb1 (by simp))
      have hz1' : w.heap.size + 1 < w1.heap.size := by have := hb1.size; simp at this; omega
      clear hb1
      go_wp2_with fail
      refine (hSd _).mono ?_
      rintro e w2 ⟨rfl, rfl⟩
      have p0 := HP1.out.c0
      go_wp2_with fail
      refine (hG _ HP1.out.rn).mono ?_
      rintro e w4 ⟨A4, c4, rfl, ho4, hb4⟩
      have HP4 := Lib.hid (HP1.out.below hb4)
      obtain ⟨c0, c1, c2, f0, f1, f2⟩ := HY1.out.below hb4 hz1'
      have HO4 := Lib.hid ho4
      clear hb4 ho4 p0
      go_wp2
      refine bodyPost_ret (v := .agg #[.int .i64 S, .slice A4 T.length c4, .int .i64 C]) (by simp [results, Tryd.results18, go_sem, c0, c1, c2]) rfl ?_
      refine ⟨A4, c4, rfl, ?_, ((HP4.out.bel.setCell (by simp) _).setCell (by simp) _).setCell (by simp) _⟩
      exact OwnI.lower (base := w1.heap.size) (by omega) (OwnI.set_below (by show w.heap.size + 1 < _; omega) _ (OwnI.set_below (by show w.heap.size + 1 < _; omega) _ (OwnI.set_below (by show w.heap.size + 1 < _; omega) _ HO4.out)))
end Go.Proofs.YtoobkajilbmdhaaDoor

namespace Go.Proofs.YtoobkajilbmdhaaDoor
open Go.RowKit
set_option linter.unusedVariables false
set_option linter.unusedSimpArgs false

/-- What PoolAt answers. -/
def atP (l : List Nd) (rt side x y : Int) : Int := if (getP l rt side).1 = 0 then tileAt (getP l rt side).2.1 (getP l rt side).2.2 x y else -1

set_option maxRecDepth 100000 in
set_option maxHeartbeats 1000000 in
theorem mPoolAt_any (A : Option Addr) (c : Nat) (l : List Nd) (rt side x y : Int) (w : World) (h : RN w w.heap.size A l) (hl : l.length ≤ 1000000000) :
    Calls Tryd.prog 21 #[.agg #[.slice A l.length c], .int .i64 rt, .int .i64 side, .int .i64 x, .int .i64 y] w fun e w' => e = .returned (.int .i64 (atP l rt side x y)) ∧ Below w.heap.size w w' := by
  have HP0 := Lib.hid (PB.made w A c l h)
  have hG := fun w h => mPoolGet_any A c l rt side w h hl
  have hT := getP_len l rt side
  have HE : Hid (atP l rt side x y = if (getP l rt side).1 = 0 then tileAt (getP l rt side).2.1 (getP l rt side).2.2 x y else -1) := rfl
  rw [HE.out]
  clear h HE
  generalize getP l rt side = RES at *
  obtain ⟨C, S, T⟩ := RES
  simp only at hG hT ⊢
  by_cases hC : C = 0
  · subst hC
    rw [if_pos rfl]
    have hA := fun A' c' w h => mTileAt_any S x y A' c' T w h (by omega)
    go_enter Tryd.func21, Tryd.ntmps21
    go_wp2_with fail
    refine (hG _ HP0.out.rn).mono ?_
    rintro e w1 ⟨A1, c1, rfl, ho1, hb1⟩
    have HP1 := Lib.hid (HP0.out.below hb1)
    have HO1 := Lib.hid ho1
    clear hb1 ho1
    go_wp2_with fail
    have hb2 : Below w1.heap.size w1 (w1.alloc (.cells #[.int .i64 S, .slice A1 T.length c1, .int .i64 0] 37)) := (Below.refl _ _).alloc (Nat.le_refl _) _
    refine (hA A1 c1 _ ((HO1.out.ri.below hb2).mono (by simp))).mono ?_
    rintro e w3 ⟨rfl, hb3⟩
    have HP3 := Lib.hid ((HP1.out.below hb2).below hb3)
    clear hb2 hb3
    go_wp2
    exact bodyPost_ret (v := .int .i64 (tileAt S T x y)) (by simp [results, Tryd.results21, go_sem]) rfl ⟨rfl, HP3.out.bel⟩
  · rw [if_neg hC]
    go_enter Tryd.func21, Tryd.ntmps21
    go_wp2_with fail
    refine (hG _ HP0.out.rn).mono ?_
    rintro e w1 ⟨A1, c1, rfl, ho1, hb1⟩
    have HP1 := Lib.hid (HP0.out.below hb1)
    clear hb1 ho1
    go_wp2
    exact bodyPost_ret (v := .int .i64 (-1)) (by simp [results, Tryd.results21, go_sem]) rfl ⟨rfl, HP1.out.bel.alloc HP1.out.bel.size _⟩
end Go.Proofs.YtoobkajilbmdhaaDoor

namespace Go.Proofs.YtoobkajilbmdhaaDoor
open Go.RowKit
set_option linter.unusedVariables false
set_option linter.unusedSimpArgs false

theorem getP_ok {l : List Nd} {rt side : Int} (h : (getP l rt side).1 = 0) : poolRight l = true ∧ sideOk side = true ∧ (getP l rt side).2.1 = side ∧ (getP l rt side).2.2.length = side.toNat * side.toNat ∧ l ≠ [] := by
  unfold getP at h ⊢
  cases hr : poolRight l <;> cases hs : sideOk side <;> simp only [hr, hs, Bool.and_true, Bool.and_false, Bool.false_eq_true, if_false, if_true, reduceCtorEq] at h ⊢ <;> try (exact absurd h (by decide))
  unfold getG at h ⊢
  cases ht : thereN l.length rt <;> simp only [ht, Bool.false_eq_true, if_false, if_true] at h ⊢
  · exact absurd h (by decide)
  · by_cases hh : (hts l).getD rt.toNat 0 ≤ (dbl side.toNat : Int)
    · simp only [hh, if_true, getTo_len, true_and]
      rintro rfl
      simp [thereN, inIs] at ht
      omega
    · simp only [hh, if_false] at h
      exact absurd h (by decide)

/-- What PoolSet answers. -/
def setP (l : List Nd) (rt side x y tile : Int) : Int × Int × List Nd :=
  if (getP l rt side).1 = 0 then
    (if gridIn side x y then (if tileOk tile then putR l side.toNat ((getP l rt side).2.2.set (y * side + x).toNat tile) else (1, 0, [])) else (8, 0, []))
  else ((getP l rt side).1, 0, [])

end Go.Proofs.YtoobkajilbmdhaaDoor

namespace Go.Proofs.YtoobkajilbmdhaaDoor
open Go.RowKit
set_option linter.unusedVariables false
set_option linter.unusedSimpArgs false

theorem tileN_range {l : List Nd} (h : pOk l) : ∀ (d k x y : Nat) (hk : k < l.length), (hts l).getD k 0 ≤ d → 0 ≤ tileN l d k x y ∧ tileN l d k x y ≤ 9
  | 0, k, x, y, hk, hh => by
    cases hs : leafN l[k]
    · have h1 := h.below hk hs (q := l[k].a.toNat) (by simp [qs])
      have h2 := ht_nn (l := l) (k := l[k].a.toNat) (by omega)
      omega
    · rw [tile_leaf hk hs]
      exact (h.leaf hk hs).2
  | d + 1, k, x, y, hk, hh => by
    cases hs : leafN l[k]
    · rw [tile_split hk hs]
      have h1 := h.below hk hs (quarter_mem l[k] (2 ^ d) x y)
      exact tileN_range h d _ _ _ (by omega) (by omega)
    · rw [tile_leaf hk hs]
      exact (h.leaf hk hs).2
theorem getTo_get (l : List Nd) (d root : Nat) : ∀ (n k : Nat) (h : k < (getTo l d root n).length), (getTo l d root n)[k] = tileN l d root (k % 2 ^ d) (k / 2 ^ d)
  | 0, k, h => by simp [getTo] at h
  | n + 1, k, h => by
    simp only [getTo]
    have hl := getTo_len l d root n
    by_cases hk : k < n
    · rw [List.getElem_append_left (by omega)]
      exact getTo_get l d root n k (by omega)
    · have e : k = n := by
        rw [getTo_len] at h
        omega
      subst e
      rw [List.getElem_append_right (by omega)]
      simp [hl]
/-- What a map that is got is like. -/
theorem getP_parts {l : List Nd} {rt side : Int} (h : (getP l rt side).1 = 0) : pOk l ∧ ∃ (sn k : Nat) (hk : k < l.length), side = sn ∧ rt = k ∧ 2 ^ dbl sn = sn ∧ sideOk side = true ∧ (hts l).getD k 0 ≤ dbl sn ∧ getP l rt side = (0, side, getTo l (dbl sn) k (sn * sn)) := by
  have hr := (getP_ok h).1
  have hs := (getP_ok h).2.1
  obtain ⟨sn, e, _, hp, _⟩ := pow_dbl hs
  unfold getP at h ⊢
  simp only [hr, hs, Bool.and_self, if_true] at h ⊢
  unfold getG at h ⊢
  cases ht : thereN l.length rt
  · simp only [ht, Bool.false_eq_true, if_false] at h
    exact absurd h (by decide)
  · have hb : 0 ≤ rt ∧ rt ≤ (l.length : Int) - 1 := by simpa [thereN, inIs] using ht
    have es : side.toNat = sn := by omega
    rw [es] at h ⊢
    simp only [ht, if_true] at h ⊢
    by_cases hh : (hts l).getD rt.toNat 0 ≤ (dbl sn : Int)
    · refine ⟨(pOk_right.1 hr).2, sn, rt.toNat, by omega, e, by omega, hp, trivial, hh, ?_⟩
      rw [if_pos hh]
    · simp only [hh, if_false] at h
      exact absurd h (by decide)
theorem getP_gr {l : List Nd} {rt side : Int} (h : (getP l rt side).1 = 0) : gridRight (getP l rt side).2.1 (getP l rt side).2.2 = true := by
  obtain ⟨hp, sn, k, hk, e1, e2, e3, e4, e5, e6⟩ := getP_parts h
  rw [e6]
  simp only [gridRight, Bool.and_eq_true, e4, true_and, beq_iff_eq, getTo_len, List.all_eq_true]
  refine ⟨by rw [e1]; simp, fun t ht => ?_⟩
  obtain ⟨j, hj, rfl⟩ := List.getElem_of_mem ht
  rw [getTo_get]
  exact (tileOk_iff _).2 (tileN_range hp _ _ _ _ hk e5)
theorem tileF_range {side : Int} {tiles : List Int} (h : gridRight side tiles = true) (sn : Nat) : ∀ x y, 0 ≤ tileF sn tiles x y ∧ tileF sn tiles x y ≤ 9 := by
  intro x y
  unfold tileF
  by_cases hl : y * sn + x < tiles.length
  · rw [show tiles.getD (y * sn + x) 0 = tiles[y * sn + x] by simp [List.getD, hl]]
    exact (right_parts h).2.2 _ hl
  · rw [show tiles.getD (y * sn + x) 0 = 0 by simp [List.getD, hl]]
    omega
/-- What stands in a pool behind a map that was put. -/
theorem putP_parts {l : List Nd} {side : Int} {tiles : List Int} (h : (putP l side tiles).1 = 0) : pOk l ∧ gridRight side tiles = true ∧ ∃ sn : Nat, side = sn ∧ 2 ^ dbl sn = sn ∧ sideOk side = true ∧ tiles.length = sn * sn ∧ (msq (tileF sn tiles) (dbl sn) 0 0 l).1.length ≤ 200 ∧
    PutAs (tileF sn tiles) (dbl sn) 0 0 (msq (tileF sn tiles) (dbl sn) 0 0 l) ∧ putP l side tiles = (0, ((msq (tileF sn tiles) (dbl sn) 0 0 l).2 : Int), (msq (tileF sn tiles) (dbl sn) 0 0 l).1) := by
  cases hc : poolRight l && gridRight side tiles
  · simp [putP, hc] at h
  · have hc' := hc
    simp only [Bool.and_eq_true] at hc'
    have hs := (right_parts hc'.2).1
    have hln := (right_parts hc'.2).2.1
    obtain ⟨sn, e, _, hp, _⟩ := pow_dbl hs
    have es : side.toNat = sn := by omega
    have ho := (pOk_right.1 hc'.1).2
    have e2 : putP l side tiles = (if (msq (tileF sn tiles) (dbl sn) 0 0 l).1.length ≤ 200 then (0, ((msq (tileF sn tiles) (dbl sn) 0 0 l).2 : Int), (msq (tileF sn tiles) (dbl sn) 0 0 l).1) else (9, 0, [])) := by
      unfold putP
      rw [if_pos hc, es]
    have hlen : tiles.length = sn * sn := by
      rw [e] at hln
      exact_mod_cast hln
    by_cases hl : (msq (tileF sn tiles) (dbl sn) 0 0 l).1.length ≤ 200
    · rw [if_pos hl] at e2
      exact ⟨ho, hc'.2, sn, e, hp, hs, hlen, hl, put_all (tileF_range hc'.2 sn) _ _ _ _ ho, e2⟩
    · rw [e2, if_neg hl] at h
      exact absurd h (by decide)
theorem putP_right {l : List Nd} {side : Int} {tiles : List Int} (h : (putP l side tiles).1 = 0) : poolRight (putP l side tiles).2.2 = true := by
  obtain ⟨_, _, sn, _, _, _, _, hl, hp, e⟩ := putP_parts h
  rw [e]
  exact pOk_right.2 ⟨hl, hp.1⟩
/-- The tiles of a node that has the map's height. -/
theorem tiles_of {l : List Nd} {sn k : Nat} {tiles : List Int} (hp : 2 ^ dbl sn = sn) (h0 : 0 < sn) (hlen : tiles.length = sn * sn) : getTo l (dbl sn) k (sn * sn) = tiles ↔ ∀ i j, i < 2 ^ dbl sn → j < 2 ^ dbl sn → tileN l (dbl sn) k i j = tileF sn tiles i j := by
  constructor
  · intro e i j hi hj
    rw [hp] at hi hj
    have hb : j * sn + i < sn * sn := by
      have := Nat.mul_le_mul_right sn (show j + 1 ≤ sn by omega)
      rw [Nat.succ_mul] at this
      omega
    have h1 : (getTo l (dbl sn) k (sn * sn))[j * sn + i]'(by rw [getTo_len]; exact hb) = tileN l (dbl sn) k ((j * sn + i) % 2 ^ dbl sn) ((j * sn + i) / 2 ^ dbl sn) := getTo_get _ _ _ _ _ _
    rw [hp] at h1
    have m1 : (j * sn + i) % sn = i := by rw [Nat.add_comm, Nat.add_mul_mod_self_right]; exact Nat.mod_eq_of_lt hi
    have m2 : (j * sn + i) / sn = j := by rw [Nat.add_comm, Nat.add_mul_div_right _ _ h0, Nat.div_eq_of_lt hi]; omega
    rw [m1, m2] at h1
    rw [← h1]
    unfold tileF
    simp only [e]
    simp [List.getD, show j * sn + i < tiles.length by omega]
  · intro h
    refine List.ext_getElem (by rw [getTo_len, hlen]) fun m h1 h2 => ?_
    rw [getTo_get, hp]
    have hm : m < sn * sn := by omega
    have q1 : m % sn < sn := Nat.mod_lt _ h0
    have q2 : m / sn < sn := by rw [Nat.div_lt_iff_lt_mul h0]; exact hm
    rw [h _ _ (by rw [hp]; exact q1) (by rw [hp]; exact q2)]
    unfold tileF
    have e : m / sn * sn + m % sn = m := by rw [Nat.mul_comm]; exact Nat.div_add_mod m sn
    rw [e]
    simp [List.getD, h2]
theorem thereN_nat {n k : Nat} : thereN n (k : Int) = decide (k < n) := by
  rw [Bool.eq_iff_iff]
  simp [thereN, inIs]
  omega
theorem getP_of {l : List Nd} {sn k : Nat} {side : Int} (hr : poolRight l = true) (e : side = sn) (hs : sideOk side = true) (hk : k < l.length) (hh : (hts l).getD k 0 ≤ dbl sn) : getP l (k : Int) side = (0, side, getTo l (dbl sn) k (sn * sn)) := by
  unfold getP
  rw [if_pos (by rw [hr, hs]; rfl)]
  unfold getG
  rw [if_pos (by rw [thereN_nat]; simpa using hk)]
  have es : side.toNat = sn := by omega
  rw [es, Int.toNat_natCast, if_pos hh]
/-- What is put is got; put again nothing is new. -/
theorem put_get {l : List Nd} {side : Int} {tiles : List Int} (h : (putP l side tiles).1 = 0) :
    getP (putP l side tiles).2.2 (putP l side tiles).2.1 side = (0, side, tiles) ∧ putP (putP l side tiles).2.2 side tiles = putP l side tiles ∧ (∀ i : Int, (getP (putP l side tiles).2.2 i side).1 = 0 → ((getP (putP l side tiles).2.2 i side).2.2 = tiles ↔ i = (putP l side tiles).2.1)) := by
  have hr := putP_right h
  obtain ⟨ho, hg, sn, e1, hp, hs, hlen, hl, ⟨p1, p2, p3, p4⟩, e⟩ := putP_parts h
  have h0 : 0 < sn := by rw [← hp]; exact Nat.pos_of_ne_zero (by simp)
  rw [e] at hr ⊢
  simp only at hr ⊢
  have ht : ∀ i j, i < 2 ^ dbl sn → j < 2 ^ dbl sn → tileN (msq (tileF sn tiles) (dbl sn) 0 0 l).1 (dbl sn) (msq (tileF sn tiles) (dbl sn) 0 0 l).2 i j = tileF sn tiles i j := by
    intro i j hi hj
    have := p4 i j hi hj
    simpa using this
  have ha := msq_again (tileF sn tiles) (dbl sn) 0 0 l _ p1 ⟨[], (List.append_nil _).symm⟩
  have hge := getP_of hr e1 hs p2 p3
  generalize hR : msq (tileF sn tiles) (dbl sn) 0 0 l = R at *
  refine ⟨?_, ?_, ?_⟩
  · rw [hge, (tiles_of hp h0 hlen).2 ht]
  · have es : side.toNat = sn := by omega
    unfold putP
    rw [if_pos (by rw [hr, hg]; rfl), es]
    simp only [ha]
    rw [if_pos hl]
  · intro i hi
    obtain ⟨_, sn', k, hk, f1, f2, f3, f4, f5, f6⟩ := getP_parts hi
    have : sn' = sn := by omega
    subst this
    rw [f6]
    simp only
    constructor
    · intro et
      have hk2 := (tiles_of hp h0 hlen).1 et
      have := (same_all p1 (dbl sn')).2 k R.2 hk p2 f5 p3 (fun x y hx hy => (hk2 x y hx hy).trans (ht x y hx hy).symm)
      rw [f2, this]
    · intro ei
      have : k = R.2 := by omega
      subst this
      exact (tiles_of hp h0 hlen).2 ht
/-- What stood in a pool stays what it was. -/
theorem get_stays {l : List Nd} {side n rt : Int} {tiles : List Int} (h : (putP l side tiles).1 = 0) (hg : (getP l rt n).1 = 0) : getP (putP l side tiles).2.2 rt n = getP l rt n := by
  have hr := putP_right h
  obtain ⟨ho, _, sn, e1, hp, hs, hlen, hl, ⟨p1, p2, p3, p4⟩, e⟩ := putP_parts h
  obtain ⟨_, sn', k, hk, f1, f2, f3, f4, f5, f6⟩ := getP_parts hg
  have hpre := msq_pre (tileF sn tiles) (dbl sn) 0 0 l
  rw [e] at hr ⊢
  simp only at hr ⊢
  obtain ⟨u, v, w⟩ := lift_app ho hpre hk
  rw [f6, f2, getP_of hr f1 f4 u (by rw [v]; exact f5)]
  have : ∀ n, getTo (msq (tileF sn tiles) (dbl sn) 0 0 l).1 (dbl sn') k n = getTo l (dbl sn') k n := by
    intro n
    induction n with
    | zero => rfl
    | succ n ih => simp only [getTo, ih, w]
  rw [this]
/-- A tile that is set is told; what was there stays. -/
theorem set_facts {l : List Nd} {rt side x y tile : Int} (h : (setP l rt side x y tile).1 = 0) : atP (setP l rt side x y tile).2.2 (setP l rt side x y tile).2.1 side x y = tile ∧ getP (setP l rt side x y tile).2.2 rt side = getP l rt side ∧ poolRight (setP l rt side x y tile).2.2 = true := by
  unfold setP at h ⊢
  by_cases hg : (getP l rt side).1 = 0
  · rw [if_pos hg] at h ⊢
    cases hi : gridIn side x y
    · simp [hi] at h
    · cases ht : tileOk tile
      · simp [hi, ht] at h
      · simp only [hi, ht, if_true] at h ⊢
        have hgr := getP_gr hg
        obtain ⟨hr, hs, e1, e2, _⟩ := getP_ok hg
        rw [e1] at hgr
        obtain ⟨j, hj1, hj2, _, _⟩ := place_bound hgr hi
        have hset : gridRight side ((getP l rt side).2.2.set (y * side + x).toNat tile) = true := by
          simp only [gridRight, Bool.and_eq_true, beq_iff_eq, List.all_eq_true, List.length_set] at hgr ⊢
          refine ⟨hgr.1, fun t htm => ?_⟩
          rcases List.mem_or_eq_of_mem_set htm with h1 | h1
          · exact hgr.2 t h1
          · rw [h1]; exact ht
        have hput : putR l side.toNat ((getP l rt side).2.2.set (y * side + x).toNat tile) = putP l side ((getP l rt side).2.2.set (y * side + x).toNat tile) := by
          have hc : (poolRight l && gridRight side ((getP l rt side).2.2.set (y * side + x).toNat tile)) = true := by rw [hr, hset]; rfl
          unfold putR putP
          rw [if_pos hc]
        rw [hput] at h ⊢
        obtain ⟨q1, _, _⟩ := put_get h
        refine ⟨?_, get_stays h hg, putP_right h⟩
        unfold atP
        rw [q1]
        simp only [if_true]
        unfold tileAt
        rw [if_pos (by rw [hset, hi]; rfl)]
        have : (y * side + x).toNat < (getP l rt side).2.2.length := by omega
        simp [List.getD, this]
  · rw [if_neg hg] at h
    exact absurd h hg
theorem weight_one {l : List Nd} {k : Nat} (hr : poolRight l = true) (hk : k < l.length) : 1 ≤ weightN l (k : Int) := by
  unfold weightN
  rw [if_pos (by rw [hr, thereN_nat]; simpa using hk), Int.toNat_natCast]
  have h1 := (needL_iff hr hk k).2 .here
  have hlen := needL_len l k
  have hlt : k < (needL l k).length := by omega
  have h2 : (needL l k)[k] = true := by simpa [List.getD, hlt] using h1
  have : 0 < (needL l k).count true := List.count_pos_iff.2 (by rw [← h2]; exact List.getElem_mem hlt)
  omega
end Go.Proofs.YtoobkajilbmdhaaDoor
