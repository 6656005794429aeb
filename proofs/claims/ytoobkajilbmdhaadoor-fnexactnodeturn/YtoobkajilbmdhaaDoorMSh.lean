/- Several texts in one: GWalkN, GWalkF, PgF. -/
import Derived.Test.YtoobkajilbmdhaaDoorGWalk
import Derived.StillTailTactics
import Derived.Test.YtoobkajilbmdhaaDoorGridF
import Derived.Test.YtoobkajilbmdhaaDoorMSb
import Derived.Deep.RegionHeld3
import Derived.Lib.SliceRun
namespace Go.Proofs.YtoobkajilbmdhaaDoor
open Go.RowKit

/-- Block b holds the fields of a map that was handed back. -/
structure GC (w : World) (b : Nat) (side : Int) (v : Value) (code : Int) : Prop where
  c0 : w.cell? ⟨b, 0, none⟩ = some (.int .i64 side)
  c1 : w.cell? ⟨b, 1, none⟩ = some v
  c2 : w.cell? ⟨b, 2, none⟩ = some (.int .i64 code)
theorem GC.below {w w' : World} {b B : Nat} {side code : Int} {v : Value} (h : GC w b side v code) (hb : Below B w w') (hB : b < B) : GC w' b side v code :=
  ⟨(hb.cell (p := ⟨b, 0, none⟩) hB).trans h.c0, (hb.cell (p := ⟨b, 1, none⟩) hB).trans h.c1, (hb.cell (p := ⟨b, 2, none⟩) hB).trans h.c2⟩
theorem GC.grown {w w' : World} {b : Nat} {side code : Int} {v : Value} {row : Option Nat} (h : GC w b side v code) (hg : w.grownBy w' row) (hb : b < w.heap.size) (hne : row ≠ some b) : GC w' b side v code :=
  ⟨(hg.cell_far ⟨b, 0, none⟩ hb (Ne.symm hne)).trans h.c0, (hg.cell_far ⟨b, 1, none⟩ hb (Ne.symm hne)).trans h.c1, (hg.cell_far ⟨b, 2, none⟩ hb (Ne.symm hne)).trans h.c2⟩
theorem GC.drew {w : World} {b : Nat} {side code : Int} {v : Value} (h : GC w b side v code) : GC w.drew b side v code := ⟨h.c0, h.c1, h.c2⟩
theorem GC.made (w : World) (side code : Int) (v : Value) (t : TypeId) : GC (w.alloc (.cells #[.int .i64 side, v, .int .i64 code] t)) w.heap.size side v code :=
  ⟨by simp [go_sem], by simp [go_sem], by simp [go_sem]⟩

theorem newTiles_le (side tile : Int) : (newTiles side tile).length ≤ 64 := by
  unfold newTiles
  split
  · next h =>
    rw [Bool.and_eq_true] at h
    rcases (sideOk_iff side).1 h.1 with rfl | rfl | rfl | rfl <;> simp
  · simp

end Go.Proofs.YtoobkajilbmdhaaDoor

namespace Go.Proofs.YtoobkajilbmdhaaDoor
open Go.RowKit

theorem GB.grown {w w' : World} {b : Nat} {side : Int} {v : Value} {row : Option Nat} (h : GB w b side v) (hg : w.grownBy w' row) (hb : b < w.heap.size) (hne : row ≠ some b) : GB w' b side v :=
  ⟨(hg.cell_far ⟨b, 0, none⟩ hb (Ne.symm hne)).trans h.c0, (hg.cell_far ⟨b, 1, none⟩ hb (Ne.symm hne)).trans h.c1, (hg.frozen_far ⟨b, 0, none⟩ hb (Ne.symm hne)).trans h.f0, (hg.frozen_far ⟨b, 1, none⟩ hb (Ne.symm hne)).trans h.f1⟩

/-- Where the own block of a slice lies. -/
def Lies (v : Value) (lo hi : Nat) : Prop := ∀ k, v.ownBlock = some k → lo ≤ k ∧ k < hi
theorem Lies.ne {v : Value} {lo hi b : Nat} (h : Lies v lo hi) (hb : b < lo ∨ hi ≤ b) : v.ownBlock ≠ some b := fun e => by have := h b e; omega
theorem Lies.apart {v v' : Value} {lo hi lo' hi' : Nat} (h : Lies v lo hi) (h' : Lies v' lo' hi') (hd : hi ≤ lo' ∨ hi' ≤ lo) : v.ownBlock = none ∨ v.ownBlock ≠ v'.ownBlock := by
  cases e : v.ownBlock with
  | none => exact .inl rfl
  | some k =>
    refine .inr fun e' => ?_
    have i1 := h k e
    have i2 := h' k e'.symm
    omega

/-- What holds behind the first answers: the map that came in (a box), the model's answer (box b0), the map that was handed to the program (box bx), its answer (box bg). -/
structure FS (w : World) (side : Int) (a : Option Addr) (n cap : Nat) (S C : Int) (L : List Int) (V1 Vx V2 : Value) (B1 b0 Bx bx B2 bg : Nat) (wr : World) (lx lg : List Int) : Prop where
  p : GB wr w.heap.size side (.slice a n cap)
  q : GC wr b0 S V1 C
  x : GB wr bx side Vx
  g : GC wr bg S V2 C
  o1 : OwnI 2 .i64 wr B1 V1 L
  ox : OwnI 2 .i64 wr Bx Vx lx
  o2 : OwnI 2 .i64 wr B2 V2 lg
  bel : Below w.heap.size w wr
  sz : bg < wr.heap.size
  ord : w.heap.size < B1 ∧ B1 ≤ b0 ∧ b0 < Bx ∧ Bx ≤ bx ∧ bx < B2 ∧ B2 ≤ bg
  l1 : Lies V1 B1 b0
  lx : Lies Vx Bx bx
  l2 : Lies V2 B2 bg
section
variable {w : World} {side : Int} {a : Option Addr} {n cap : Nat} {S C : Int} {L : List Int} {V1 Vx V2 : Value} {B1 b0 Bx bx B2 bg : Nat} {wr wr' : World} {lx lg : List Int}
theorem FS.below (h : FS w side a n cap S C L V1 Vx V2 B1 b0 Bx bx B2 bg wr lx lg) (hb : Below wr.heap.size wr wr') : FS w side a n cap S C L V1 Vx V2 B1 b0 Bx bx B2 bg wr' lx lg := by
  have ho := h.ord
  have hz := h.sz
  exact ⟨h.p.below hb (by omega), h.q.below hb (by omega), h.x.below hb (by omega), h.g.below hb hz, h.o1.keep hb, h.ox.keep hb, h.o2.keep hb, h.bel.trans (hb.mono h.bel.size), Nat.lt_of_lt_of_le hz hb.size, ho, h.l1, h.lx, h.l2⟩
theorem FS.drew (h : FS w side a n cap S C L V1 Vx V2 B1 b0 Bx bx B2 bg wr lx lg) : FS w side a n cap S C L V1 Vx V2 B1 b0 Bx bx B2 bg wr.drew lx lg :=
  h.below (Below.refl _ _).drew
theorem FS.markX (h : FS w side a n cap S C L V1 Vx V2 B1 b0 Bx bx B2 bg wr lx lg) {lx' : List Int} (ho : OwnI 2 .i64 wr' Bx Vx lx') (hg : wr.grownBy wr' Vx.ownBlock) : FS w side a n cap S C L V1 Vx V2 B1 b0 Bx bx B2 bg wr' lx' lg := by
  have hr := h.ord
  have hz := h.sz
  refine ⟨h.p.grown hg (by omega) (h.lx.ne (by omega)), h.q.grown hg (by omega) (h.lx.ne (by omega)), h.x.grown hg (by omega) (h.lx.ne (by omega)), h.g.grown hg hz (h.lx.ne (by omega)), World.ownsRow.kept h.o1 hg (h.l1.apart h.lx (by omega)), ho, World.ownsRow.kept h.o2 hg (h.l2.apart h.lx (by omega)), h.bel.grown hg h.bel.size (fun k hk => ?_), Nat.lt_of_lt_of_le hz hg.size, hr, h.l1, h.lx, h.l2⟩
  have := (h.lx k hk).1
  omega
theorem FS.markG (h : FS w side a n cap S C L V1 Vx V2 B1 b0 Bx bx B2 bg wr lx lg) {lg' : List Int} (ho : OwnI 2 .i64 wr' B2 V2 lg') (hg : wr.grownBy wr' V2.ownBlock) : FS w side a n cap S C L V1 Vx V2 B1 b0 Bx bx B2 bg wr' lx lg' := by
  have hr := h.ord
  have hz := h.sz
  refine ⟨h.p.grown hg (by omega) (h.l2.ne (by omega)), h.q.grown hg (by omega) (h.l2.ne (by omega)), h.x.grown hg (by omega) (h.l2.ne (by omega)), h.g.grown hg hz (h.l2.ne (by omega)), World.ownsRow.kept h.o1 hg (h.l1.apart h.l2 (by omega)), World.ownsRow.kept h.ox hg (h.lx.apart h.l2 (by omega)), ho, h.bel.grown hg h.bel.size (fun k hk => ?_), Nat.lt_of_lt_of_le hz hg.size, hr, h.l1, h.lx, h.l2⟩
  have := (h.l2 k hk).1
  omega
end

def FillDoes : Prop := ∀ (side x y wd ht tile : Int) (A : Option Addr) (c : Nat) (l : List Int) (w : World), In64 side ∧ (∀ n ∈ l, In64 n) → In64 x → In64 y → In64 wd → In64 ht → In64 tile → RI w w.heap.size A l → l.length ≤ 1048576 → Calls Tryd.prog 78 #[.agg #[.int .i64 side, .slice A l.length c], .int .i64 x, .int .i64 y, .int .i64 wd, .int .i64 ht, .int .i64 tile] w fun e w' => GOut w w' (fillSide side l x y wd ht tile) (fillTiles side l x y wd ht tile) (fillCode side l x y wd ht tile) e
theorem fillTiles_le (side : Int) (l : List Int) (x y wd ht tile : Int) : (fillTiles side l x y wd ht tile).length ≤ l.length := by
  unfold fillTiles
  split
  · rw [fillL, paint_length]; exact Nat.le_refl _
  · simp

end Go.Proofs.YtoobkajilbmdhaaDoor

namespace Go.Proofs.YtoobkajilbmdhaaDoor
open Go.RowKit

set_option maxRecDepth 100000 in
set_option maxHeartbeats 400000 in
theorem pClone_any (b off c : Nat) (l : List Int) (w : World) (hbl : b < w.heap.size) (hc : ∀ j (h : j < l.length), w.cell? ⟨b, off + j, none⟩ = some (.int .i64 l[j])) (hl : l.length ≤ 1000000000) (h0 : 0 < l.length) :
    Calls Tryd.prog 105 #[.slice (some ⟨b, off, none⟩) l.length c] w fun e w' => ∃ g c', e = .returned (.slice (some ⟨g, 0, none⟩) l.length c') ∧ OwnI 2 .i64 w' w.heap.size (.slice (some ⟨g, 0, none⟩) l.length c') l ∧ Below w.heap.size w w' := by
  obtain ⟨i0, hi, hz0, hz1, hz2⟩ := info_parts Tryd.infoInt
  have HC := Lib.hid (fun j h => ((((Below.refl w.heap.size w).alloc (Nat.le_refl _) (.cells #[] 2)).cell (p := ⟨b, off + j, none⟩) hbl).trans (hc j h)))
  have HB := Lib.hid ((Below.refl w.heap.size w).alloc (Nat.le_refl _) (.cells #[] 2))
  have hol := OwnI.lit (e := 2) (k := .i64) (w := w) (base := w.heap.size) [] (Nat.le_refl _) (by simp)
  have HO := Lib.hid hol
  clear hc hol
  have hq : ∀ (w : World) (a : Option Addr) (n c n' c' : Nat), (binOp .eql 26 (.slice a n c) (.slice none n' c')).run Tryd.prog w = .ok (.bool a.isNone) w := fun w a n c n' c' => Lib.run_eql_slice_nil w _ _ a n c n' c' Tryd.underlying26
  go_enter Tryd.func105, Tryd.ntmps105
  go_wp2_with (at_builtin; refine append_ints Tryd.underlying26 hi hz0 hz1 hz2 (by decide) rfl _ _ rfl w.heap.size _ [] l (w.alloc (.cells #[] 2)) b off c HO.out rfl rfl HC.out (by simp <;> omega) (by simp) ?_; intro v' w1 hown1 hb1)
  go_ret
  rw [List.nil_append] at hown1
  rcases hown1.2 with ⟨_, hn⟩ | ⟨g, c', cur, rfl, _⟩
  · omega
  · exact ⟨g, c', rfl, hown1, HB.out.trans hb1⟩

theorem spanIn_fill (side x y wd ht : Int) : fillIn side x y wd ht = (spanIn side x wd && spanIn side y ht) := by
  rw [Bool.eq_iff_iff, fillIn_iff]
  simp only [spanIn, Bool.and_eq_true, decide_eq_true_eq]
  omega


/-- The map that came in and the one that is to be handed back stand in their boxes. -/
structure FB (w : World) (side : Int) (v : Value) (wr : World) : Prop where
  inn : GB wr w.heap.size side v
  res : GO wr (w.heap.size + 1)
  bel : Below w.heap.size w wr
  siz : w.heap.size + 1 < wr.heap.size
theorem FB.below {w : World} {side : Int} {v : Value} {wr wr' : World} (h : FB w side v wr) (hb : Below wr.heap.size wr wr') : FB w side v wr' :=
  ⟨h.inn.below hb (by have := h.siz; omega), h.res.below hb h.siz, h.bel.trans (hb.mono h.bel.size), Nat.lt_of_lt_of_le h.siz hb.size⟩
theorem FB.made (w : World) (side : Int) (v : Value) : FB w side v ((w.alloc (.cells #[.int .i64 side, v] 28)).alloc (.cells #[.int .i64 0, .slice none 0 0, .int .i64 0] 37)) := by
  refine ⟨(GB.made w side v 28).below ((Below.refl _ _).alloc (B := w.heap.size + 1) (by simp) _) (by omega), ?_, ((Below.refl _ _).alloc (Nat.le_refl _) _).alloc (by simp) _, by simp⟩
  have := GO.made (w.alloc (.cells #[.int .i64 side, v] 28)) 37
  rw [alloc_size] at this
  exact this

/-- What holds while it is filled: beside FB, the copy in block o, whose tiles lie in block g. -/
structure PF (w : World) (side : Int) (v : Value) (n o g c' : Nat) (wr : World) (l : List Int) : Prop where
  inn : GB wr w.heap.size side v
  res : GO wr (w.heap.size + 1)
  cpy : GB wr o side (.slice (some ⟨g, 0, none⟩) n c')
  own : OwnI 2 .i64 wr (w.heap.size + 1 + 1) (.slice (some ⟨g, 0, none⟩) n c') l
  bel : Below w.heap.size w wr
  siz : w.heap.size + 1 < o ∧ w.heap.size + 1 < g ∧ g ≠ o ∧ o < wr.heap.size
theorem PF.store {w : World} {side : Int} {v : Value} {n o g c' : Nat} {wr : World} {l : List Int} (h : PF w side v n o g c' wr l) (j : Nat) (t : Int) : PF w side v n o g c' (wr.setCell ⟨g, j, none⟩ (.int .i64 t)) (l.set j t) := by
  obtain ⟨h1, h2, h3, h4⟩ := h.siz
  exact ⟨h.inn.far (by show g ≠ _; omega) _, h.res.far (by show g ≠ _; omega) _, h.cpy.far (by show g ≠ _; omega) _, (h.own.store t).1, h.bel.setCell (by show w.heap.size ≤ g; omega) _, h1, h2, h3, by simpa [World.setCell] using h4⟩
theorem PF.below {w : World} {side : Int} {v : Value} {n o g c' : Nat} {wr wr' : World} {l : List Int} (h : PF w side v n o g c' wr l) (hb : Below wr.heap.size wr wr') : PF w side v n o g c' wr' l := by
  obtain ⟨h1, h2, h3, h4⟩ := h.siz
  exact ⟨h.inn.below hb (by omega), h.res.below hb (by omega), h.cpy.below hb h4, h.own.keep hb, h.bel.trans (hb.mono h.bel.size), h1, h2, h3, Nat.lt_of_lt_of_le h4 hb.size⟩
theorem PF.after {w w1 w6 : World} {side : Int} {v : Value} {n g c' : Nat} {l : List Int} (h : FB w side v w1) (ho : OwnI 2 .i64 w6 w1.heap.size (.slice (some ⟨g, 0, none⟩) n c') l) (hb : Below w1.heap.size w1.drew w6) :
    PF w side v n w6.heap.size g c' (w6.alloc (.cells #[.int .i64 side, .slice (some ⟨g, 0, none⟩) n c'] 28)) l := by
  have hf := h.below ((Below.refl _ _).drew.trans hb)
  have hg := World.ownsRow.lt ho g rfl
  have ha : Below w6.heap.size w6 (w6.alloc (.cells #[.int .i64 side, .slice (some ⟨g, 0, none⟩) n c'] 28)) := (Below.refl _ _).alloc (Nat.le_refl _) _
  have hz := h.siz
  have hz6 := hf.siz
  exact ⟨hf.inn.below ha (by omega), hf.res.below ha (by omega), GB.made _ _ _ _, OwnI.lower (by omega) (ho.alloc _), hf.bel.trans (ha.mono hf.bel.size), by omega, by omega, by omega, by simp⟩
theorem PF.ahead {w w1 w6 : World} {side : Int} {v : Value} {n g c' : Nat} {l : List Int} (h : FB w side v w1) (ho : OwnI 2 .i64 w6 (w1.heap.size + 1) (.slice (some ⟨g, 0, none⟩) n c') l) (hb : Below (w1.heap.size + 1) (w1.alloc (.cells #[.int .i64 0, .slice none 0 0] 28)).drew w6) :
    PF w side v n w1.heap.size g c' ((w6.setCell ⟨w1.heap.size, 0, none⟩ (.int .i64 side)).setCell ⟨w1.heap.size, 1, none⟩ (.slice (some ⟨g, 0, none⟩) n c')) l := by
  have ha : Below w1.heap.size w1 (w1.alloc (.cells #[.int .i64 0, .slice none 0 0] 28)).drew := ((Below.refl _ _).alloc (Nat.le_refl _) _).drew
  have hf := (h.below ha).below (by simpa using hb)
  have hg := World.ownsRow.lt ho g rfl
  have hz := h.siz
  have hn := ((GB.made w1 0 (.slice none 0 0) 28).drew).below hb (by omega)
  have hs : w1.heap.size + 1 ≤ w6.heap.size := by have := hb.size; simpa using this
  refine ⟨(hf.inn.far (by show w1.heap.size ≠ _; omega) _).far (by show w1.heap.size ≠ _; omega) _, (hf.res.far (by show w1.heap.size ≠ _; omega) _).far (by show w1.heap.size ≠ _; omega) _, (hn.set0 side).set1 _, OwnI.lower (base := w1.heap.size + 1) (by omega) (OwnI.set_below (by show w1.heap.size < _; omega) _ (OwnI.set_below (by show w1.heap.size < _; omega) _ ho)), (hf.bel.setCell (by show w.heap.size ≤ w1.heap.size; omega) _).setCell (by show w.heap.size ≤ w1.heap.size; omega) _, hz, by omega, by omega, ?_⟩
  simp [World.setCell]; omega

set_option maxRecDepth 100000 in
set_option maxHeartbeats 400000 in
theorem pFill_any (side x y wd ht tile : Int) (A : Option Addr) (c : Nat) (l : List Int) (w : World) (h : RI w w.heap.size A l) (hl : l.length ≤ 1000000000) (hx : In64 x) (hy : In64 y) :
    Calls Tryd.prog 78 #[.agg #[.int .i64 side, .slice A l.length c], .int .i64 x, .int .i64 y, .int .i64 wd, .int .i64 ht, .int .i64 tile] w fun e w' => GOut w w' (fillSide side l x y wd ht tile) (fillTiles side l x y wd ht tile) (fillCode side l x y wd ht tile) e := by
  have HF0 := Lib.hid (FB.made w side (.slice A l.length c))
  have H := Lib.hid h
  clear h
  have hRt := fun w h => pRight_any side A c l w h hl
  have hTt := pTile_any tile
  have HSF := Lib.hid (spanIn_fill side x y wd ht)
  cases hr : gridRight side l
  · have HR := Lib.hid hr
    rw [hr] at hRt
    clear hr
    go_enter Tryd.func78, Tryd.ntmps78
    go_wp2_with fail
    refine (hRt _ ((H.out.below HF0.out.bel).mono HF0.out.bel.size)).mono ?_
    rintro e w1 ⟨rfl, hb1⟩
    have HF1 := Lib.hid (HF0.out.below hb1)
    clear hb1
    obtain ⟨⟨i0, i1, j0, j1⟩, ⟨c0, c1, c2, f0, f1, f2⟩, _, hz⟩ := HF1.out
    go_wp2
    refine bodyPost_ret (v := .agg #[.int .i64 0, .slice none 0 0, .int .i64 1]) (by simp [results, Tryd.results78, go_sem, c0, c1, c2]) rfl ?_
    have hok : fillOk side l tile = false := by simp [fillOk, HR.out]
    simp only [fillSide, fillTiles, fillCode, hok, Bool.false_and]
    exact ⟨none, 0, rfl, OwnI.nil _ _ _ _, ((HF1.out.bel.setCell (by simp) _).setCell (by simp) _).setCell (by simp) _⟩
  · cases ht' : tileOk tile
    · have HT := Lib.hid ht'
      rw [hr] at hRt
      rw [ht'] at hTt
      clear hr ht'
      go_enter Tryd.func78, Tryd.ntmps78
      go_wp2_with fail
      refine (hRt _ ((H.out.below HF0.out.bel).mono HF0.out.bel.size)).mono ?_
      rintro e w1 ⟨rfl, hb1⟩
      have HF1 := Lib.hid (HF0.out.below hb1)
      clear hb1
      obtain ⟨⟨i0, i1, j0, j1⟩, ⟨c0, c1, c2, f0, f1, f2⟩, _, hz⟩ := HF1.out
      go_wp2_with fail
      refine (hTt _).mono ?_
      rintro e w2 ⟨rfl, rfl⟩
      go_wp2
      refine bodyPost_ret (v := .agg #[.int .i64 0, .slice none 0 0, .int .i64 1]) (by simp [results, Tryd.results78, go_sem, c0, c1, c2]) rfl ?_
      have hok : fillOk side l tile = false := by simp [fillOk, HT.out]
      simp only [fillSide, fillTiles, fillCode, hok, Bool.false_and]
      exact ⟨none, 0, rfl, OwnI.nil _ _ _ _, ((HF1.out.bel.setCell (by simp) _).setCell (by simp) _).setCell (by simp) _⟩
    · have HR := Lib.hid hr
      have HT := Lib.hid ht'
      have hs := (right_parts hr).1
      have hsx := fun w => pSpan_any side x wd w hs hx
      have hsy := fun w => pSpan_any side y ht w hs hy
      have HOK : Hid (fillOk side l tile = true) := by show _ = _; simp [fillOk, hr, ht']
      rw [hr] at hRt
      rw [ht'] at hTt
      clear hr ht'
      cases hix : spanIn side x wd
      · have HX := Lib.hid hix
        rw [hix] at hsx
        clear hix
        go_enter Tryd.func78, Tryd.ntmps78
        go_wp2_with fail
        refine (hRt _ ((H.out.below HF0.out.bel).mono HF0.out.bel.size)).mono ?_
        rintro e w1 ⟨rfl, hb1⟩
        have HF1 := Lib.hid (HF0.out.below hb1)
        clear hb1
        obtain ⟨⟨i0, i1, j0, j1⟩, ⟨c0, c1, c2, f0, f1, f2⟩, _, hz⟩ := HF1.out
        go_wp2_with fail
        refine (hTt _).mono ?_
        rintro e w2 ⟨rfl, rfl⟩
        go_wp2_with fail
        refine (hsx _).mono ?_
        rintro e w2 ⟨rfl, rfl⟩
        go_wp2
        refine bodyPost_ret (v := .agg #[.int .i64 0, .slice none 0 0, .int .i64 8]) (by simp [results, Tryd.results78, go_sem, c0, c1, c2]) rfl ?_
        have hfi : fillIn side x y wd ht = false := by rw [HSF.out, HX.out]; rfl
        simp only [fillSide, fillTiles, fillCode, HOK.out, hfi, Bool.and_false, if_true]
        exact ⟨none, 0, rfl, OwnI.nil _ _ _ _, ((HF1.out.bel.setCell (by simp) _).setCell (by simp) _).setCell (by simp) _⟩
      · rw [hix] at hsx
        cases hiy : spanIn side y ht
        · have HY := Lib.hid hiy
          rw [hiy] at hsy
          clear hix hiy
          go_enter Tryd.func78, Tryd.ntmps78
          go_wp2_with fail
          refine (hRt _ ((H.out.below HF0.out.bel).mono HF0.out.bel.size)).mono ?_
          rintro e w1 ⟨rfl, hb1⟩
          have HF1 := Lib.hid (HF0.out.below hb1)
          clear hb1
          obtain ⟨⟨i0, i1, j0, j1⟩, ⟨c0, c1, c2, f0, f1, f2⟩, _, hz⟩ := HF1.out
          go_wp2_with fail
          refine (hTt _).mono ?_
          rintro e w2 ⟨rfl, rfl⟩
          go_wp2_with fail
          refine (hsx _).mono ?_
          rintro e w2 ⟨rfl, rfl⟩
          go_wp2_with fail
          refine (hsy _).mono ?_
          rintro e w2 ⟨rfl, rfl⟩
          go_wp2
          refine bodyPost_ret (v := .agg #[.int .i64 0, .slice none 0 0, .int .i64 8]) (by simp [results, Tryd.results78, go_sem, c0, c1, c2]) rfl ?_
          have hfi : fillIn side x y wd ht = false := by rw [HSF.out, HY.out, Bool.and_false]
          simp only [fillSide, fillTiles, fillCode, HOK.out, hfi, Bool.and_false, if_true]
          exact ⟨none, 0, rfl, OwnI.nil _ _ _ _, ((HF1.out.bel.setCell (by simp) _).setCell (by simp) _).setCell (by simp) _⟩
        · rw [hiy] at hsy
          obtain ⟨sn, rfl, hs1, hs8, hln⟩ := right_nat HR.out
          have hfi : fillIn sn x y wd ht = true := by rw [HSF.out, hix, hiy]; rfl
          have HFI := Lib.hid hfi
          obtain ⟨b1, b2, b3, b4, b5, b6⟩ := fillIn_iff.1 hfi
          obtain ⟨xn, rfl⟩ := Int.eq_ofNat_of_zero_le b1
          obtain ⟨yn, rfl⟩ := Int.eq_ofNat_of_zero_le b2
          obtain ⟨m, rfl⟩ := Int.eq_ofNat_of_zero_le (show 0 ≤ wd by omega)
          obtain ⟨hn, rfl⟩ := Int.eq_ofNat_of_zero_le (show 0 ≤ ht by omega)
          have hl0 : 0 < l.length := by rw [hln]; exact Nat.mul_pos hs1 hs1
          have h64 := right_len HR.out
          obtain ⟨b, off, rfl, hbl, _⟩ := H.out.at_ hl0
          have HLN := Lib.hid hln
          have HCL : Hid (∀ j (h : j < l.length), w.cell? ⟨b, off + j, none⟩ = some (.int .i64 l[j])) := by
            show ∀ j h, _
            intro j hj
            obtain ⟨b', off', he, _, hc'⟩ := H.out.at_ hj
            simp only [Option.some.injEq, Addr.mk.injEq, and_true] at he
            obtain ⟨rfl, rfl⟩ := he
            exact hc'
          have hwy : IntKind.i64.wrap ((yn : Int) + hn) = (yn : Int) + hn := IntWalk.i64_in _ (by omega)
          clear hix hiy hfi b1 b2 hln
          go_enter Tryd.func78, Tryd.ntmps78
          go_wp2_with fail
          refine (hRt _ ((H.out.below HF0.out.bel).mono HF0.out.bel.size)).mono ?_
          rintro e w1 ⟨rfl, hb1⟩
          have HF1 := Lib.hid (HF0.out.below hb1)
          clear hb1
          obtain ⟨⟨i0, i1, j0, j1⟩, ⟨c0, c1, c2, f0, f1, f2⟩, _, hz⟩ := HF1.out
          have hz0 : w.heap.size < w1.heap.size := by omega
          go_wp2_with fail
          refine (hTt _).mono ?_
          rintro e w2 ⟨rfl, rfl⟩
          go_wp2_with fail
          refine (hsx _).mono ?_
          rintro e w2 ⟨rfl, rfl⟩
          go_wp2_with fail
          refine (hsy _).mono ?_
          rintro e w2 ⟨rfl, rfl⟩
          go_wp2_with fail
          have HA1 := Lib.hid ((Below.refl w1.heap.size w1).alloc (Nat.le_refl _) (.cells #[.int .i64 0, .slice none 0 0] 28)).drew
          have HN1 := Lib.hid (GB.made w1 0 (.slice none 0 0) 28).drew
          have HK := Lib.hid (pClone_any b off c l (w1.alloc (.cells #[.int .i64 0, .slice none 0 0] 28)).drew (Nat.lt_of_lt_of_le hbl (Nat.le_trans HF1.out.bel.size HA1.out.size)) (fun j hj => ((HF1.out.bel.trans (HA1.out.mono HF1.out.bel.size)).cell (p := ⟨b, off + j, none⟩) hbl).trans (HCL.out j hj)) hl hl0)
          have HL := Lib.hid (pClone_any b off c l w1.drew (Nat.lt_of_lt_of_le hbl HF1.out.bel.size) (fun j hj => (HF1.out.bel.drew.cell (p := ⟨b, off + j, none⟩) hbl).trans (HCL.out j hj)) hl hl0)
          go_region_held3 (fun w' => w'.cell? ⟨w.heap.size, 0, none⟩ = some (.int .i64 sn) ∧ w'.cell? ⟨w.heap.size, 1, none⟩ = some (.slice (some ⟨b, off, none⟩) l.length c))
            (first
              | go_keep
              | exact hk6
              | exact ⟨(World.cell?_setCell_other _ _ _ _ (by simp <;> omega)).trans ((World.cell?_setCell_other _ _ _ _ (by simp <;> omega)).trans hk6.1), (World.cell?_setCell_other _ _ _ _ (by simp <;> omega)).trans ((World.cell?_setCell_other _ _ _ _ (by simp <;> omega)).trans hk6.2)⟩)
            (first
              | (go_at_call 105; refine HK.out.mono ?_; rintro e w6 ⟨g6, c6, rfl, ho6, hb6⟩; have hk6 : w6.cell? ⟨w.heap.size, 0, none⟩ = some (.int .i64 sn) ∧ w6.cell? ⟨w.heap.size, 1, none⟩ = some (.slice (some ⟨b, off, none⟩) l.length c) := ⟨((HF1.out.inn.below HA1.out hz0).below hb6 (Nat.lt_of_lt_of_le hz0 HA1.out.size)).c0, ((HF1.out.inn.below HA1.out hz0).below hb6 (Nat.lt_of_lt_of_le hz0 HA1.out.size)).c1⟩; obtain ⟨d0, d1, e0, e1⟩ := HN1.out.below hb6 (by simp); have hz6 : w.heap.size < w6.heap.size := Nat.lt_of_lt_of_le hz0 (Nat.le_trans HA1.out.size hb6.size))
              | (go_at_call 105; refine HL.out.mono ?_; rintro e w6 ⟨g6, c6, rfl, ho6, hb6⟩; have hk6 : w6.cell? ⟨w.heap.size, 0, none⟩ = some (.int .i64 sn) ∧ w6.cell? ⟨w.heap.size, 1, none⟩ = some (.slice (some ⟨b, off, none⟩) l.length c) := ⟨(HF1.out.inn.drew.below hb6 hz0).c0, (HF1.out.inn.drew.below hb6 hz0).c1⟩; have hz6 : w.heap.size < w6.heap.size := Nat.lt_of_lt_of_le hz0 hb6.size))
          all_goals first
            | (have HP := Lib.hid (PF.after HF1.out ho6 hb6)
               rename_i hheld
               clear hheld ho6 hb6 hk6 hz6
               generalize w6.alloc (.cells #[.int .i64 sn, .slice (some ⟨g6, 0, none⟩) l.length c6] 28) = W at HP ⊢
               generalize w6.heap.size = o at HP ⊢)
            | (have HP := Lib.hid (PF.ahead HF1.out (by simpa using ho6) (by simpa using hb6))
               rename_i hheld
               clear hheld ho6 hb6 hk6 hz6 d0 d1 e0 e1
               generalize (w6.setCell ⟨w1.heap.size, 0, none⟩ (.int .i64 sn)).setCell ⟨w1.heap.size, 1, none⟩ (.slice (some ⟨g6, 0, none⟩) l.length c6) = W at HP ⊢
               generalize w1.heap.size = o at HP ⊢)
          all_goals
            clear i0 i1 j0 j1 c0 c1 c2 f0 f1 f2 HA1 HN1 HK HL
            go_wp2
            go_loopw [14] (fun r wr => ∃ i : Nat, r = .int .i64 ((yn : Int) + i) ∧ i ≤ hn ∧ PF w sn (.slice (some ⟨b, off, none⟩) l.length c) l.length o g6 c6 wr (paint (inRect sn xn yn m i) tile l)) (fun r _ => (yn + hn) - (intOf r).toNat)
            case atStart =>
              refine ⟨0, by simp, Nat.zero_le _, ?_⟩
              have e : paint (inRect sn xn yn m ((0 : Nat) : Int)) tile l = l := by rw [Int.natCast_zero, rect_none, paint_none]
              rw [e]; exact HP.out
            case round =>
              obtain ⟨i, rfl, hi, hp⟩ := hrel
              have HI := Lib.hid hp
              obtain ⟨_, _, ⟨d0, d1, e0, e1⟩, _, _, z1, z2, z3, z4⟩ := hp
              by_cases hlt : i < hn
              · have hlt' : (yn : Int) + i < (yn : Int) + hn := by omega
                have hks : (yn + i + 1) * sn ≤ sn * sn := Nat.mul_le_mul_right _ (by omega)
                rw [Nat.add_mul, Nat.one_mul] at hks
                have hcap : l.length ≤ c6 := by have := HI.out.own.cap; rw [paint_length] at this; exact this
                have hpr := fun w => pRow_any sn xn ((yn : Int) + i) g6 0 l.length c6 ((yn + i) * sn + xn) m w (by simp) (by have := wrap_prod (k := yn + i) (sn := sn) (by omega) hs8; simpa using this) (by omega) (by have := HLN.out; omega) (by have := HLN.out; omega)
                have HJ : Hid ((yn + i) * sn + xn + m ≤ l.length) := by
                  show _ ≤ _
                  rw [HLN.out]; omega
                generalize hJ : (yn + i) * sn + xn = J at hpr HJ
                rw [Nat.zero_add] at hpr
                have HJJ := Lib.hid hJ
                clear hJ hks
                go_wp2_with fail
                refine (hpr _).mono ?_
                rintro e w7 ⟨rfl, hb7⟩
                have HI7 := Lib.hid (HI.out.below hb7)
                clear hb7 d0 d1 e0 e1 z4
                go_wp2
                go_loopw [62] (fun k wr => ∃ j : Nat, k = .int .i64 j ∧ j ≤ m ∧ PF w sn (.slice (some ⟨b, off, none⟩) l.length c) l.length o g6 c6 wr (paint (fun q => inRect sn xn yn m i q || inRow sn xn (yn + i) j q) tile l)) (fun k _ => m - (intOf k).toNat)
                case atStart =>
                  refine ⟨0, rfl, Nat.zero_le _, ?_⟩
                  have e : paint (fun q => inRect sn xn yn m i q || inRow sn xn (yn + i) ((0 : Nat) : Int) q) tile l = paint (inRect sn xn yn m i) tile l := by
                    rw [Int.natCast_zero, row_none]
                    simp
                  rw [e]; exact HI7.out
                case round =>
                  obtain ⟨j, rfl, hj, hp⟩ := hrel
                  have HI8 := Lib.hid hp
                  have hjm := HJ.out
                  by_cases hjl : j < m
                  · obtain ⟨g, eg, _, _, hcg, hfg⟩ := hp.own.at_ (j := J + j) (by rw [paint_length]; omega)
                    cases eg
                    have HS := Lib.hid (hp.store (J + j) tile)
                    clear hp
                    go_wp2
                    go_roundw
                    case rel =>
                      refine ⟨j + 1, by go_num, by omega, ?_⟩
                      have h1 := HS.out
                      have e := row_step (side := sn) (x := xn) (j := (yn : Int) + i) (i := (xn : Int) + j) (n := J + j) hs (by omega) (by omega) (by omega) (by rw [← HJJ.out]; simp; omega)
                      rw [paint_set] at h1
                      have e2 : (fun q => (inRect sn xn yn m i q || inRow sn xn (yn + i) j q) || q == J + j) = fun q => inRect sn xn yn m i q || inRow sn xn (yn + i) ((j + 1 : Nat) : Int) q := by
                        funext q
                        have e3 := congrFun e q
                        rw [show (xn : Int) + j - xn = j by omega, show (xn : Int) + j + 1 - xn = ((j + 1 : Nat) : Int) by omega] at e3
                        rw [Bool.or_assoc, e3]
                      rw [e2] at h1
                      exact h1
                    case measure => simp [intOf]; omega
                  · have ej : j = m := by omega
                    subst ej
                    clear hp
                    go_wp2
                    go_roundw
                    case rel =>
                      refine ⟨i + 1, by go_num, by omega, ?_⟩
                      have h1 := HI8.out
                      have e := rect_step (side := sn) (x := xn) (y := yn) (j := (yn : Int) + i) (w := j) (by omega)
                      rw [show (yn : Int) + i - yn = i by omega, show (yn : Int) + i + 1 - yn = ((i + 1 : Nat) : Int) by omega] at e
                      rw [e] at h1
                      exact h1
                    case measure => simp [intOf]; omega
              · have ei : i = hn := by omega
                subst ei
                obtain ⟨c0, c1, c2, f0, f1, f2⟩ := HI.out.res
                go_wp2
                refine bodyPost_ret (v := .agg #[.int .i64 sn, .slice (some ⟨g6, 0, none⟩) l.length c6, .int .i64 0]) (by simp [results, Tryd.results78, go_sem, c0, c1, c2]) rfl ?_
                simp only [fillSide, fillTiles, fillCode, HOK.out, HFI.out, Bool.and_self, if_true]
                refine ⟨some ⟨g6, 0, none⟩, c6, by rw [fillL, paint_length], ?_, ((HI.out.bel.setCell (by simp) _).setCell (by simp) _).setCell (by simp) _⟩
                rw [fillL, paint_length]
                exact OwnI.lower (base := w.heap.size + 1 + 1) (by omega) (OwnI.set_below (by show w.heap.size + 1 < _; omega) _ (OwnI.set_below (by show w.heap.size + 1 < _; omega) _ (OwnI.set_below (by show w.heap.size + 1 < _; omega) _ HI.out.own)))
theorem fill_does : FillDoes := fun side x y wd ht tile A c l w _ hx hy _ _ _ h hl => pFill_any side x y wd ht tile A c l w h (by omega) hx hy
end Go.Proofs.YtoobkajilbmdhaaDoor
