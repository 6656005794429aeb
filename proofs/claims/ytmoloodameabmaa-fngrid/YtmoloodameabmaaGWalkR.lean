/- The exact law of GridRead, walked for any program whose function keeps its contract. -/
import Derived.Test.YtmoloodameabmaaGWalkN
import Derived.StillTailTactics
namespace Go.Proofs.Ytmoloodameabmaa
open Go.RowKit

def GridReadDoes : Prop := ∀ (s : ByteArray) (w : World), s.size ≤ 1048576 → Calls Try.prog 17 #[.string s] w fun e w' => GOut w w' (readSide s) (readTiles s) (readCode s) e
theorem readTiles_le (s : ByteArray) : (readTiles s).length ≤ 8000 := by
  unfold readTiles
  split
  · next h => exact Nat.le_trans (rdTiles_le _ _) h.1
  · simp

set_option maxRecDepth 100000 in
set_option maxHeartbeats 400000 in
theorem gridRead_walk (himpl : GridReadDoes) (s : ByteArray) (w : World) (hs : s.size ≤ maxLen) :
    Calls Try.prog 9 #[.string s] w fun e w' => e = .returned (.bool true) ∧ Below w.heap.size w w' := by
  unfold maxLen at hs
  by_cases h : 1048576 < s.size
  · go_enter Try.func9, Try.ntmps9
    go_wp2_with fail
    go_ret
    exact ⟨rfl, Below.refl _ _⟩
  have hlen := readTiles_le s
  have hM := fun w => mRead_any s w (by omega)
  have hI := fun w => himpl s w (by omega)
  generalize readSide s = S at *
  generalize readTiles s = L at *
  generalize readCode s = C at *
  go_enter Try.func9, Try.ntmps9
  go_wp2_with fail
  refine (hM _).mono ?_
  rintro e w1 ⟨A1, c1, rfl, ho1, hb1⟩
  have HO1 := Lib.hid ho1
  have HB1 := Lib.hid hb1
  have HL1 := Lib.hid (World.ownsRow.lt ho1)
  clear ho1 hb1
  go_wp2_with fail
  refine (hI _).mono ?_
  rintro e w2 ⟨A2, c2, rfl, ho2, hb2⟩
  simp only [alloc_size] at ho2 hb2
  have hba : Below w1.heap.size w1 w2 := ((Below.refl _ _).alloc (Nat.le_refl _) _).trans (hb2.mono (by omega))
  have hbc : Below w2.heap.size w2 (w2.alloc (.cells #[.int .i64 S, .slice A2 L.length c2, .int .i64 C] 29)) := (Below.refl _ _).alloc (Nat.le_refl _) _
  have hz2 : w1.heap.size < w2.heap.size := by have := hb2.size; simp at this; omega
  have HW := Lib.hid (((GC.made w1 S C (.slice A1 L.length c1) 29).below hb2 (by omega)).below hbc hz2)
  have HG := Lib.hid (GC.made w2 S C (.slice A2 L.length c2) 29)
  have HO1a := Lib.hid ((HO1.out.keep hba).alloc (.cells #[.int .i64 S, .slice A2 L.length c2, .int .i64 C] 29))
  have HO2a := Lib.hid (ho2.alloc (.cells #[.int .i64 S, .slice A2 L.length c2, .int .i64 C] 29))
  have HB2 := Lib.hid ((HB1.out.trans (hba.mono HB1.out.size)).alloc (Nat.le_trans HB1.out.size (Nat.le_of_lt hz2)) (.cells #[.int .i64 S, .slice A2 L.length c2, .int .i64 C] 29))
  have hz3 : w2.heap.size < (w2.alloc (.cells #[.int .i64 S, .slice A2 L.length c2, .int .i64 C] 29)).heap.size := by simp
  have HL2 := Lib.hid (World.ownsRow.lt ho2)
  clear hba hbc ho2 hb2
  obtain ⟨p0, p1, p2⟩ := HW.out
  obtain ⟨q0, q1, q2⟩ := HG.out
  go_wp2_with fail
  generalize w2.alloc (.cells #[.int .i64 S, .slice A2 L.length c2, .int .i64 C] 29) = w3 at *
  refine (eqGridOut_any S C A2 A1 c2 c1 L w3 HO2a.out.ri HO1a.out.ri (by omega)).mono ?_
  rintro e w4 ⟨rfl, hb4⟩
  have HW4 := Lib.hid (HW.out.below hb4 (Nat.lt_trans hz2 hz3))
  have HG4 := Lib.hid (HG.out.below hb4 hz3)
  have HO14 := Lib.hid (HO1a.out.keep hb4)
  have HO24 := Lib.hid (HO2a.out.keep hb4)
  have HB4 := Lib.hid (HB2.out.trans (hb4.mono HB2.out.size))
  have hz4 : w2.heap.size < w4.heap.size := Nat.lt_of_lt_of_le hz3 hb4.size
  clear hb4 p0 p1 p2 q0 q1 q2 HW HG HO1a HO2a HB2 hz3
  obtain ⟨q0, q1, q2⟩ := HG4.out
  go_wp2_with fail
  refine (markGridOut_any S C A2 c2 (w1.heap.size + 1) 1 L w4 HO24.out (by omega) (by decide)).mono ?_
  rintro e w5 ⟨rfl, ho5, hg5⟩
  have hne1 : (Value.slice A2 L.length c2).ownBlock ≠ some w1.heap.size := fun h => by have := (HL2.out _ h).1; omega
  have hne2 : (Value.slice A2 L.length c2).ownBlock ≠ some w2.heap.size := fun h => by have := (HL2.out _ h).2; omega
  have hne3 : (Value.slice A1 L.length c1).ownBlock = none ∨ (Value.slice A1 L.length c1).ownBlock ≠ (Value.slice A2 L.length c2).ownBlock := by
    cases h1 : (Value.slice A1 L.length c1).ownBlock with
    | none => exact .inl rfl
    | some k =>
      refine .inr fun h2 => ?_
      have i1 := (HL1.out k h1).2
      have i2 := (HL2.out k h2.symm).1
      omega
  have HW5 := Lib.hid (HW4.out.grown hg5 (by omega) hne1)
  have HG5 := Lib.hid (HG4.out.grown hg5 hz4 hne2)
  have HO15 : Hid (OwnI 2 .i64 w5 w.heap.size (.slice A1 L.length c1) L) := World.ownsRow.kept HO14.out hg5 hne3
  have HO25 := Lib.hid ho5
  have HB5 := Lib.hid (HB4.out.grown hg5 HB4.out.size (fun k hk => Nat.le_trans HB1.out.size (Nat.le_trans (Nat.le_succ _) (HL2.out k hk).1)))
  have hz5 : w2.heap.size < w5.heap.size := Nat.lt_of_lt_of_le hz4 hg5.size
  clear q0 q1 q2 ho5 hg5 HW4 HG4 HO14 HO24 HB4 hz4 hne1 hne2 hne3
  obtain ⟨q0, q1, q2⟩ := HG5.out
  go_wp2_with fail
  refine (heldGridOut_any S C A2 c2 1 L.length w5 HO25.out.ri (by omega) (by decide)).mono ?_
  rintro e w6 ⟨rfl, hb6⟩
  have HW6 := Lib.hid (HW5.out.below hb6 (Nat.lt_trans hz2 hz5))
  have HG6 := Lib.hid (HG5.out.below hb6 hz5)
  have HO16 := Lib.hid (HO15.out.keep hb6)
  have HO26 := Lib.hid (HO25.out.keep hb6)
  have HB6 := Lib.hid (HB5.out.trans (hb6.mono HB5.out.size))
  have hz6 : w2.heap.size < w6.heap.size := Nat.lt_of_lt_of_le hz5 hb6.size
  clear q0 q1 q2 hb6 HW5 HG5 HO15 HO25 HB5 hz5
  go_wp2_with fail
  refine (hI _).mono ?_
  rintro e w7 ⟨A3, c3, rfl, ho7, hb7⟩
  have hbc : Below w7.heap.size w7 (w7.alloc (.cells #[.int .i64 S, .slice A3 L.length c3, .int .i64 C] 29)) := (Below.refl _ _).alloc (Nat.le_refl _) _
  have hz7 : w2.heap.size < w7.heap.size := Nat.lt_of_lt_of_le hz6 hb7.size
  have HW7 := Lib.hid ((HW6.out.below hb7 (Nat.lt_trans hz2 hz6)).below hbc (Nat.lt_trans hz2 hz7))
  have HG7 := Lib.hid ((HG6.out.below hb7 hz6).below hbc hz7)
  have HH7 := Lib.hid (GC.made w7 S C (.slice A3 L.length c3) 29)
  have HO17 := Lib.hid ((HO16.out.keep hb7).alloc (.cells #[.int .i64 S, .slice A3 L.length c3, .int .i64 C] 29))
  have HO27 := Lib.hid ((HO26.out.keep hb7).alloc (.cells #[.int .i64 S, .slice A3 L.length c3, .int .i64 C] 29))
  have HO37 := Lib.hid (ho7.alloc (.cells #[.int .i64 S, .slice A3 L.length c3, .int .i64 C] 29))
  have HB7 := Lib.hid ((HB6.out.trans (hb7.mono HB6.out.size)).alloc (Nat.le_trans HB6.out.size hb7.size) (.cells #[.int .i64 S, .slice A3 L.length c3, .int .i64 C] 29))
  have hz8 : w2.heap.size < (w7.alloc (.cells #[.int .i64 S, .slice A3 L.length c3, .int .i64 C] 29)).heap.size := by simp; omega
  clear hbc ho7 hb7 HW6 HG6 HO16 HO26 HB6 hz6
  obtain ⟨p0, p1, p2⟩ := HW7.out
  obtain ⟨q0, q1, q2⟩ := HH7.out
  go_wp2_with fail
  generalize w7.alloc (.cells #[.int .i64 S, .slice A3 L.length c3, .int .i64 C] 29) = w8 at *
  refine (eqGridOut_any S C A3 A1 c3 c1 L w8 HO37.out.ri HO17.out.ri (by omega)).mono ?_
  rintro e w9 ⟨rfl, hb9⟩
  have HG9 := Lib.hid (HG7.out.below hb9 hz8)
  have HO29 := Lib.hid (HO27.out.keep hb9)
  have HB9 := Lib.hid (HB7.out.trans (hb9.mono HB7.out.size))
  clear p0 p1 p2 q0 q1 q2 hb9 HW7 HG7 HH7 HO17 HO27 HO37 HB7 hz7 hz8
  obtain ⟨q0, q1, q2⟩ := HG9.out
  go_wp2_with fail
  refine (heldGridOut_any S C A2 c2 1 L.length w9 HO29.out.ri (by omega) (by decide)).mono ?_
  rintro e w10 ⟨rfl, hb10⟩
  have HB10 := Lib.hid (HB9.out.trans (hb10.mono HB9.out.size))
  clear q0 q1 q2 hb10
  go_wp2
  go_ret
  exact ⟨rfl, HB10.out⟩
end Go.Proofs.Ytmoloodameabmaa
