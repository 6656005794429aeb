/- The exact law of Fill, walked for any program whose function keeps its contract. -/
import Derived.Test.YtmoloodameabmaaGWalkN
import Derived.Test.YtmoloodameabmaaGridF
namespace Go.Proofs.Ytmoloodameabmaa
open Go.RowKit

theorem GB.grown {w w' : World} {b : Nat} {side : Int} {v : Value} {row : Option Nat} (h : GB w b side v) (hg : w.grownBy w' row) (hb : b < w.heap.size) (hne : row ≠ some b) : GB w' b side v :=
  ⟨(hg.cell_far ⟨b, 0, none⟩ hb (Ne.symm hne)).trans h.c0, (hg.cell_far ⟨b, 1, none⟩ hb (Ne.symm hne)).trans h.c1, (hg.frozen_far ⟨b, 0, none⟩ hb (Ne.symm hne)).trans h.f0, (hg.frozen_far ⟨b, 1, none⟩ hb (Ne.symm hne)).trans h.f1⟩

/-- Where the own block of a slice lies. -/
def Lies (v : Value) (lo hi : Nat) : Prop := ∀ k, v.ownBlock = some k → lo ≤ k ∧ k < hi
theorem Lies.ne {v : Value} {lo hi b : Nat} (h : Lies v lo hi) (hb : b < lo ∨ hi ≤ b) : v.ownBlock ≠ some b := fun e => by have := h b e; omega
theorem Lies.apart {v v' : Value} {lo hi lo' hi' : Nat} (h : Lies v lo hi) (h' : Lies v' lo' hi') (hd : hi ≤ lo' ∨ hi' ≤ lo) : v.ownBlock = none ∨ v.ownBlock ≠ v'.ownBlock := by
  cases e : v.ownBlock with
  | none => exact .inl rfl
  | some k =>
    refine .inr fun e' => ?_
    have i1 := h k e
    have i2 := h' k e'.symm
    omega

/-- What holds behind the first answers: the map that came in (a box), the model's answer (box b0), the map that was handed to the program (box bx), its answer (box bg). -/
structure FS (w : World) (side : Int) (a : Option Addr) (n cap : Nat) (S C : Int) (L : List Int) (V1 Vx V2 : Value) (B1 b0 Bx bx B2 bg : Nat) (wr : World) (lx lg : List Int) : Prop where
  p : GB wr w.heap.size side (.slice a n cap)
  q : GC wr b0 S V1 C
  x : GB wr bx side Vx
  g : GC wr bg S V2 C
  o1 : OwnI 2 .i64 wr B1 V1 L
  ox : OwnI 2 .i64 wr Bx Vx lx
  o2 : OwnI 2 .i64 wr B2 V2 lg
  bel : Below w.heap.size w wr
  sz : bg < wr.heap.size
  ord : w.heap.size < B1 ∧ B1 ≤ b0 ∧ b0 < Bx ∧ Bx ≤ bx ∧ bx < B2 ∧ B2 ≤ bg
  l1 : Lies V1 B1 b0
  lx : Lies Vx Bx bx
  l2 : Lies V2 B2 bg
section
variable {w : World} {side : Int} {a : Option Addr} {n cap : Nat} {S C : Int} {L : List Int} {V1 Vx V2 : Value} {B1 b0 Bx bx B2 bg : Nat} {wr wr' : World} {lx lg : List Int}
theorem FS.below (h : FS w side a n cap S C L V1 Vx V2 B1 b0 Bx bx B2 bg wr lx lg) (hb : Below wr.heap.size wr wr') : FS w side a n cap S C L V1 Vx V2 B1 b0 Bx bx B2 bg wr' lx lg := by
  have ho := h.ord
  have hz := h.sz
  exact ⟨h.p.below hb (by omega), h.q.below hb (by omega), h.x.below hb (by omega), h.g.below hb hz, h.o1.keep hb, h.ox.keep hb, h.o2.keep hb, h.bel.trans (hb.mono h.bel.size), Nat.lt_of_lt_of_le hz hb.size, ho, h.l1, h.lx, h.l2⟩
theorem FS.drew (h : FS w side a n cap S C L V1 Vx V2 B1 b0 Bx bx B2 bg wr lx lg) : FS w side a n cap S C L V1 Vx V2 B1 b0 Bx bx B2 bg wr.drew lx lg :=
  h.below (Below.refl _ _).drew
theorem FS.markX (h : FS w side a n cap S C L V1 Vx V2 B1 b0 Bx bx B2 bg wr lx lg) {lx' : List Int} (ho : OwnI 2 .i64 wr' Bx Vx lx') (hg : wr.grownBy wr' Vx.ownBlock) : FS w side a n cap S C L V1 Vx V2 B1 b0 Bx bx B2 bg wr' lx' lg := by
  have hr := h.ord
  have hz := h.sz
  refine ⟨h.p.grown hg (by omega) (h.lx.ne (by omega)), h.q.grown hg (by omega) (h.lx.ne (by omega)), h.x.grown hg (by omega) (h.lx.ne (by omega)), h.g.grown hg hz (h.lx.ne (by omega)), World.ownsRow.kept h.o1 hg (h.l1.apart h.lx (by omega)), ho, World.ownsRow.kept h.o2 hg (h.l2.apart h.lx (by omega)), h.bel.grown hg h.bel.size (fun k hk => ?_), Nat.lt_of_lt_of_le hz hg.size, hr, h.l1, h.lx, h.l2⟩
  have := (h.lx k hk).1
  omega
theorem FS.markG (h : FS w side a n cap S C L V1 Vx V2 B1 b0 Bx bx B2 bg wr lx lg) {lg' : List Int} (ho : OwnI 2 .i64 wr' B2 V2 lg') (hg : wr.grownBy wr' V2.ownBlock) : FS w side a n cap S C L V1 Vx V2 B1 b0 Bx bx B2 bg wr' lx lg' := by
  have hr := h.ord
  have hz := h.sz
  refine ⟨h.p.grown hg (by omega) (h.l2.ne (by omega)), h.q.grown hg (by omega) (h.l2.ne (by omega)), h.x.grown hg (by omega) (h.l2.ne (by omega)), h.g.grown hg hz (h.l2.ne (by omega)), World.ownsRow.kept h.o1 hg (h.l1.apart h.l2 (by omega)), World.ownsRow.kept h.ox hg (h.lx.apart h.l2 (by omega)), ho, h.bel.grown hg h.bel.size (fun k hk => ?_), Nat.lt_of_lt_of_le hz hg.size, hr, h.l1, h.lx, h.l2⟩
  have := (h.l2 k hk).1
  omega
end

def FillDoes : Prop := ∀ (side x y wd ht tile : Int) (A : Option Addr) (c : Nat) (l : List Int) (w : World), In64 side ∧ (∀ n ∈ l, In64 n) → In64 x → In64 y → In64 wd → In64 ht → In64 tile → RI w w.heap.size A l → l.length ≤ 1048576 → Calls Try.prog 12 #[.agg #[.int .i64 side, .slice A l.length c], .int .i64 x, .int .i64 y, .int .i64 wd, .int .i64 ht, .int .i64 tile] w fun e w' => GOut w w' (fillSide side l x y wd ht tile) (fillTiles side l x y wd ht tile) (fillCode side l x y wd ht tile) e
theorem fillTiles_le (side : Int) (l : List Int) (x y wd ht tile : Int) : (fillTiles side l x y wd ht tile).length ≤ l.length := by
  unfold fillTiles
  split
  · rw [fillL, paint_length]; exact Nat.le_refl _
  · simp

set_option maxRecDepth 100000 in
set_option maxHeartbeats 400000 in
theorem fill_walk (himpl : FillDoes) (side : Int) (a : Option Addr) (cap : Nat) (l : List Int) (x y wd ht tile : Int) (w : World) (w0 : InGrid w side a l) (hx : (Lit.int .i64 x).wf = true) (hy : (Lit.int .i64 y).wf = true) (hwd : (Lit.int .i64 wd).wf = true) (hht : (Lit.int .i64 ht).wf = true) (htl : (Lit.int .i64 tile).wf = true) :
    Calls Try.prog 7 #[.agg #[.int .i64 side, .slice a l.length cap], .int .i64 x, .int .i64 y, .int .i64 wd, .int .i64 ht, .int .i64 tile] w fun e w' => e = .returned (.bool true) ∧ Below w.heap.size w w' := by
  have HS := Lib.hid w0.nums
  obtain ⟨_, hri, hlm, _⟩ := w0
  unfold maxLen at hlm
  have HR := Lib.hid hri
  clear hri
  have hbw : Below w.heap.size w (w.alloc (.cells #[.int .i64 side, .slice a l.length cap] 47)) := (Below.refl _ _).alloc (Nat.le_refl _) _
  have hsz := fun w => szGrid_any side 1048576 a l.length cap w (by omega) (by decide) (by decide)
  by_cases hl : (l.length : Int) ≤ 1048576
  · have hM := fun A c w h => mFill_any side x y wd ht tile A c l w h (by omega) (bounds_i64 hx).1 (bounds_i64 hx).2 (bounds_i64 hy).1 (bounds_i64 hy).2
    have hI := fun A c w h => himpl side x y wd ht tile A c l w HS.out (bounds_i64 hx) (bounds_i64 hy) (bounds_i64 hwd) (bounds_i64 hht) (bounds_i64 htl) h (by omega)
    have hlen := fillTiles_le side l x y wd ht tile
    generalize fillSide side l x y wd ht tile = S at *
    generalize fillTiles side l x y wd ht tile = L at *
    generalize fillCode side l x y wd ht tile = C at *
    clear hx hy hwd hht htl
    rw [if_pos hl] at hsz
    have hleft : (0 : Int) ≤ 1048576 - l.length := by omega
    go_enter Try.func7, Try.ntmps7
    go_wp2_with fail
    refine (hsz _).mono ?_
    rintro e w1 ⟨rfl, hb1⟩
    have HP1 := Lib.hid ((GB.made w side (.slice a l.length cap) 47).below hb1 (by simp))
    have hz1 : w.heap.size < w1.heap.size := by have := hb1.size; simp at this; omega
    have HB1 := Lib.hid (hbw.trans (hb1.mono hbw.size))
    clear hb1
    obtain ⟨c10, c11, f10, f11⟩ := HP1.out
    go_wp2_with fail
    refine (toGrid_any side a cap l w1 ((HR.out.below HB1.out).mono HB1.out.size) (by omega)).mono ?_
    rintro e w2 ⟨g2, rfl, ho2, hb2⟩
    have HO2 := Lib.hid ho2
    have HP2 := Lib.hid (HP1.out.below hb2 hz1)
    have hz2 : w.heap.size < w2.heap.size := by have := hb2.size; omega
    have HB2 := Lib.hid (HB1.out.trans (hb2.mono HB1.out.size))
    clear hb2 ho2 c10 c11 f10 f11
    obtain ⟨c10, c11, f10, f11⟩ := HP2.out
    go_wp2_with fail
    refine (hM _ _ w2 HO2.out.ri).mono ?_
    rintro e w3 ⟨A1, c1, rfl, ho3, hb3⟩
    have hba3 : Below w3.heap.size w3 (w3.alloc (.cells #[.int .i64 S, .slice A1 L.length c1, .int .i64 C] 29)) := (Below.refl _ _).alloc (Nat.le_refl _) _
    have hz3 : w2.heap.size ≤ w3.heap.size := hb3.size
    have HL1 : Hid (Lies (.slice A1 L.length c1) w2.heap.size w3.heap.size) := World.ownsRow.lt ho3
    have HP3 := Lib.hid ((HP2.out.below hb3 hz2).below hba3 (by omega))
    have HQ3 := Lib.hid (GC.made w3 S C (.slice A1 L.length c1) 29)
    have HO3 := Lib.hid (ho3.alloc (.cells #[.int .i64 S, .slice A1 L.length c1, .int .i64 C] 29))
    have HB3 := Lib.hid ((HB2.out.trans (hb3.mono HB2.out.size)).trans (hba3.mono (by omega)))
    clear hb3 ho3 hba3 c10 c11 f10 f11
    obtain ⟨c10, c11, f10, f11⟩ := HP3.out
    go_wp2_with fail
    refine (toGrid_any side a cap l _ ((HR.out.below HB3.out).mono HB3.out.size) (by omega)).mono ?_
    rintro e w4 ⟨g4, rfl, ho4, hb4⟩
    simp only [alloc_size] at ho4 hb4
    have hba4 : Below w4.heap.size w4 (w4.alloc (.cells #[.int .i64 side, .slice (some ⟨g4, 0, none⟩) l.length l.length] 25)) := (Below.refl _ _).alloc (Nat.le_refl _) _
    have hz4 : w3.heap.size < w4.heap.size := by have := hb4.size; simp at this; omega
    have HLX : Hid (Lies (.slice (some ⟨g4, 0, none⟩) l.length l.length) (w3.heap.size + 1) w4.heap.size) := World.ownsRow.lt ho4
    have HP4 := Lib.hid ((HP3.out.below hb4 (by omega)).below hba4 (by omega))
    have HQ4 := Lib.hid ((HQ3.out.below hb4 (by omega)).below hba4 hz4)
    have HX4 := Lib.hid (GB.made w4 side (.slice (some ⟨g4, 0, none⟩) l.length l.length) 25)
    have HO14 := Lib.hid ((OwnI.keep HO3.out (by simpa using hb4)).alloc (.cells #[.int .i64 side, .slice (some ⟨g4, 0, none⟩) l.length l.length] 25))
    have HOX4 := Lib.hid (ho4.alloc (.cells #[.int .i64 side, .slice (some ⟨g4, 0, none⟩) l.length l.length] 25))
    have HB4 := Lib.hid ((HB3.out.trans (hb4.mono (by omega))).trans (hba4.mono (by omega)))
    clear hb4 ho4 hba4 c10 c11 f10 f11
    obtain ⟨c10, c11, f10, f11⟩ := HX4.out
    go_wp2_with fail
    refine (hI _ _ _ HOX4.out.ri).mono ?_
    rintro e w5 ⟨A2, c2, rfl, ho5, hb5⟩
    simp only [alloc_size] at ho5 hb5
    have hba5 : Below w5.heap.size w5 (w5.alloc (.cells #[.int .i64 S, .slice A2 L.length c2, .int .i64 C] 29)) := (Below.refl _ _).alloc (Nat.le_refl _) _
    have hz5 : w4.heap.size < w5.heap.size := by have := hb5.size; simp at this; omega
    have HF : Hid (FS w side a l.length cap S C L (.slice A1 L.length c1) (.slice (some ⟨g4, 0, none⟩) l.length l.length) (.slice A2 L.length c2) w2.heap.size w3.heap.size (w3.heap.size + 1) w4.heap.size (w4.heap.size + 1) w5.heap.size (w5.alloc (.cells #[.int .i64 S, .slice A2 L.length c2, .int .i64 C] 29)) l L) :=
      ⟨(HP4.out.below hb5 (by omega)).below hba5 (by omega), (HQ4.out.below hb5 (by omega)).below hba5 (by omega), (HX4.out.below hb5 (by omega)).below hba5 (by omega), GC.made _ _ _ _ _, (OwnI.keep HO14.out (by simpa using hb5)).alloc _, (OwnI.keep HOX4.out (by simpa using hb5)).alloc _, ho5.alloc _, (HB4.out.trans (hb5.mono (by omega))).trans (hba5.mono (by omega)), by simp, ⟨hz2, hz3, by omega, by omega, by omega, by omega⟩, HL1.out, HLX.out, World.ownsRow.lt ho5⟩
    clear hb5 ho5 hba5 c10 c11 f10 f11 HP1 HP2 HP3 HP4 HB1 HB2 HB3 HB4 HO2 HQ3 HQ4 HX4 HO14 HOX4 HL1 HLX HO3
    obtain ⟨p0, p1, p2⟩ := HF.out.q
    obtain ⟨q0, q1, q2⟩ := HF.out.g
    go_wp2_with fail
    generalize w5.alloc (.cells #[.int .i64 S, .slice A2 L.length c2, .int .i64 C] 29) = w6 at *
    refine (eqGridOut_any S C A2 A1 c2 c1 L w6 HF.out.o2.ri HF.out.o1.ri (by omega)).mono ?_
    rintro e w7 ⟨rfl, hb7⟩
    have HF7 := Lib.hid (HF.out.below hb7)
    clear hb7 p0 p1 p2 q0 q1 q2 HF
    obtain ⟨p0, p1, _, _⟩ := HF7.out.p
    obtain ⟨x0, x1, _, _⟩ := HF7.out.x
    go_wp2_with fail
    have HT8 := Lib.hid (toGrid_any side a cap l w7.drew ((HR.out.below HF7.out.drew.bel).mono HF7.out.drew.bel.size) (by omega))
    go_region_held3 (fun w' => w'.cell? ⟨w4.heap.size, 0, none⟩ = some (.int .i64 side) ∧ w'.cell? ⟨w4.heap.size, 1, none⟩ = some (.slice (some ⟨g4, 0, none⟩) l.length l.length) ∧ w'.cell? ⟨w.heap.size, 0, none⟩ = some (.int .i64 side) ∧ w'.cell? ⟨w.heap.size, 1, none⟩ = some (.slice a l.length cap))
      (first
        | go_keep
        | exact hk8
        | exact hk9)
      (first
        | (go_at_call 34; refine HT8.out.mono ?_; rintro e w8 ⟨g8, rfl, ho8, hb8⟩; have HF8 := Lib.hid (HF7.out.drew.below hb8); have hk8 : w8.cell? ⟨w4.heap.size, 0, none⟩ = some (.int .i64 side) ∧ w8.cell? ⟨w4.heap.size, 1, none⟩ = some (.slice (some ⟨g4, 0, none⟩) l.length l.length) ∧ w8.cell? ⟨w.heap.size, 0, none⟩ = some (.int .i64 side) ∧ w8.cell? ⟨w.heap.size, 1, none⟩ = some (.slice a l.length cap) := ⟨HF8.out.x.c0, HF8.out.x.c1, HF8.out.p.c0, HF8.out.p.c1⟩)
        | (go_at_call 35; refine (eqGrid_any side _ _ l.length l.length l w8 HF8.out.ox.ri ho8.ri (by omega)).mono ?_; rintro e w9 ⟨rfl, hb9⟩; have HF9 := Lib.hid (HF8.out.below hb9); have hk9 : w9.cell? ⟨w4.heap.size, 0, none⟩ = some (.int .i64 side) ∧ w9.cell? ⟨w4.heap.size, 1, none⟩ = some (.slice (some ⟨g4, 0, none⟩) l.length l.length) ∧ w9.cell? ⟨w.heap.size, 0, none⟩ = some (.int .i64 side) ∧ w9.cell? ⟨w.heap.size, 1, none⟩ = some (.slice a l.length cap) := ⟨HF9.out.x.c0, HF9.out.x.c1, HF9.out.p.c0, HF9.out.p.c1⟩))
    rename_i hheld
    clear hheld hk8 hk9 ho8 hb8 hb9 HT8 HF7 HF8 p0 p1 x0 x1
    obtain ⟨x0, x1, _, _⟩ := HF9.out.x
    go_wp2_with fail
    refine (markGrid_any side _ l.length (w3.heap.size + 1) 1 l w9 HF9.out.ox (by omega) (by decide)).mono ?_
    rintro e w10 ⟨rfl, ho10, hg10⟩
    have HF10 := Lib.hid (HF9.out.markX ho10 hg10)
    clear ho10 hg10 HF9 x0 x1
    obtain ⟨p0, p1, p2⟩ := HF10.out.q
    obtain ⟨q0, q1, q2⟩ := HF10.out.g
    go_wp2_with fail
    refine (eqGridOut_any S C A2 A1 c2 c1 L w10 HF10.out.o2.ri HF10.out.o1.ri (by omega)).mono ?_
    rintro e w11 ⟨rfl, hb11⟩
    have HF11 := Lib.hid (HF10.out.below hb11)
    clear hb11 p0 p1 p2 q0 q1 q2 HF10
    obtain ⟨q0, q1, q2⟩ := HF11.out.g
    go_wp2_with fail
    refine (markGridOut_any S C A2 c2 (w4.heap.size + 1) 1 L w11 HF11.out.o2 (by omega) (by decide)).mono ?_
    rintro e w12 ⟨rfl, ho12, hg12⟩
    have HF12 := Lib.hid (HF11.out.markG ho12 hg12)
    clear ho12 hg12 HF11 q0 q1 q2
    obtain ⟨q0, q1, q2⟩ := HF12.out.g
    go_wp2_with fail
    refine (heldGridOut_any S C A2 c2 1 L.length w12 HF12.out.o2.ri (by omega) (by decide)).mono ?_
    rintro e w13 ⟨rfl, hb13⟩
    have HF13 := Lib.hid (HF12.out.below hb13)
    clear hb13 HF12 q0 q1 q2
    obtain ⟨p0, p1, _, _⟩ := HF13.out.p
    go_wp2_with fail
    refine (toGrid_any side a cap l w13 ((HR.out.below HF13.out.bel).mono HF13.out.bel.size) (by omega)).mono ?_
    rintro e w14 ⟨g14, rfl, ho14, hb14⟩
    have HO14 := Lib.hid ho14
    have HF14 := Lib.hid (HF13.out.below hb14)
    clear ho14 hb14 HF13 p0 p1
    go_wp2_with fail
    refine (hI _ _ w14 HO14.out.ri).mono ?_
    rintro e w15 ⟨A3, c3, rfl, ho15, hb15⟩
    have hba15 : Below w15.heap.size w15 (w15.alloc (.cells #[.int .i64 S, .slice A3 L.length c3, .int .i64 C] 29)) := (Below.refl _ _).alloc (Nat.le_refl _) _
    have HF16 := Lib.hid ((HF14.out.below hb15).below hba15)
    have HH16 := Lib.hid (GC.made w15 S C (.slice A3 L.length c3) 29)
    have HO16 := Lib.hid (ho15.alloc (.cells #[.int .i64 S, .slice A3 L.length c3, .int .i64 C] 29))
    clear ho15 hb15 hba15 HF14 HO14
    obtain ⟨p0, p1, p2⟩ := HF16.out.q
    obtain ⟨q0, q1, q2⟩ := HH16.out
    go_wp2_with fail
    generalize w15.alloc (.cells #[.int .i64 S, .slice A3 L.length c3, .int .i64 C] 29) = w16 at *
    refine (eqGridOut_any S C A3 A1 c3 c1 L w16 HO16.out.ri HF16.out.o1.ri (by omega)).mono ?_
    rintro e w17 ⟨rfl, hb17⟩
    have HF17 := Lib.hid (HF16.out.below hb17)
    clear hb17 HF16 HH16 HO16 p0 p1 p2 q0 q1 q2
    obtain ⟨q0, q1, q2⟩ := HF17.out.g
    go_wp2_with fail
    refine (heldGridOut_any S C A2 c2 1 L.length w17 HF17.out.o2.ri (by omega) (by decide)).mono ?_
    rintro e w18 ⟨rfl, hb18⟩
    have HF18 := Lib.hid (HF17.out.below hb18)
    clear hb18 HF17 q0 q1 q2
    go_wp2
    go_ret
    exact ⟨rfl, HF18.out.bel⟩
  · rw [if_neg hl] at hsz
    go_enter Try.func7, Try.ntmps7
    go_wp2_with fail
    refine (hsz _).mono ?_
    rintro e w1 ⟨rfl, hb1⟩
    have HB1 := Lib.hid (hbw.trans (hb1.mono hbw.size))
    clear hb1
    go_wp2
    go_ret
    exact ⟨rfl, HB1.out⟩
end Go.Proofs.Ytmoloodameabmaa
