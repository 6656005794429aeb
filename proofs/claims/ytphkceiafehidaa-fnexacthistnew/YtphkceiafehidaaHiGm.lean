/- The exact law on new histories, walked. -/
import Derived.Test.YtphkceiafehidaaHiHm
import Derived.Test.YtphkceiafehidaaQSa
namespace Go.Proofs.Ytphkceiafehidaa
open Go.RowKit
set_option linter.unusedVariables false
set_option linter.unusedSimpArgs false

theorem Tn.bel {p : Nat → Prop} {a b : World} {B : Nat} (h : Tn p a b) (hp : ∀ k, p k → B ≤ k) (hB : B ≤ a.heap.size) : Below B a b :=
  ⟨h.os, h.tape, h.output, h.size, fun k hk => h.block k (by omega) fun e => by have := hp k e; omega⟩
theorem HB6.at_ {w w' : World} {q : Nat} {side code : Int} {vN vV vB vC : Value} (h : HB6 w q side vN vV vB vC code) (e : w'.heap[q]? = w.heap[q]?) : HB6 w' q side vN vV vB vC code :=
  ⟨(cell_at e).trans h.c0, (cell_at e).trans h.c1, (cell_at e).trans h.c2, (cell_at e).trans h.c3, (cell_at e).trans h.c4, (cell_at e).trans h.c5⟩
/-- An answer that is a history, in its box q, to be read; its lists below hi. -/
structure RH (w : World) (q hi : Nat) (S : Int) (An : Option Addr) (cn : Nat) (Av : Option Addr) (cv : Nat) (Ab : Option Addr) (cb : Nat) (Ac : Option Addr) (cc : Nat) (N : List Nd) (V : List Ve) (ns : List Nat) (C : List Ch) (code : Int) (f : Nat → Br) (vs : Nat → Value) (B : Nat) : Prop where
  box : HB6 w q S (.slice An N.length cn) (.slice Av V.length cv) (.slice Ab ns.length cb) (.slice Ac C.length cc) code
  own : OwnHi w B (.slice An N.length cn) (.slice Av V.length cv) (.slice Ab ns.length cb) N V ns.length f vs
  ch : OwnCh w B (.slice Ac C.length cc) C
  ap : ∀ k, InHi (.slice An N.length cn) (.slice Av V.length cv) (.slice Ab ns.length cb) ns.length vs k → (Value.slice Ac C.length cc).ownBlock ≠ some k
  lie : ∀ k, (InHi (.slice An N.length cn) (.slice Av V.length cv) (.slice Ab ns.length cb) ns.length vs k ∨ (Value.slice Ac C.length cc).ownBlock = some k) → B ≤ k ∧ k < hi
  hq : (B ≤ hi ∧ hi ≤ q) ∧ q < w.heap.size
section
variable {w w' : World} {q hi cn cv cb cc B : Nat} {S code : Int} {An Av Ab Ac : Option Addr} {N : List Nd} {V : List Ve} {ns : List Nat} {C : List Ch} {f : Nat → Br} {vs : Nat → Value}
theorem RH.on (h : RH w q hi S An cn Av cv Ab cb Ac cc N V ns C code f vs B) (hb : Below w.heap.size w w') : RH w' q hi S An cn Av cv Ab cb Ac cc N V ns C code f vs B :=
  ⟨h.box.at_ (hb.block q h.hq.2), h.own.keep hb, h.ch.keep hb, h.ap, h.lie, h.hq.1, Nat.lt_of_lt_of_le h.hq.2 hb.size⟩
theorem RH.stay (h : RH w q hi S An cn Av cv Ab cb Ac cc N V ns C code f vs B) (hk : ∀ k, B ≤ k → k < q + 1 → w'.heap[k]? = w.heap[k]?) (hz : w.heap.size ≤ w'.heap.size) : RH w' q hi S An cn Av cv Ab cb Ac cc N V ns C code f vs B := by
  have hq := h.hq
  have hBq : B ≤ q := by omega
  exact ⟨h.box.at_ (hk q hBq (by omega)), h.own.stay (fun k e => h.lie k (.inl e)) (fun b h1 h2 => hk b h1 (by omega)), ownsRow_at h.ch (fun k e => h.lie k (.inr e)) (fun b h1 h2 => hk b h1 (by omega)), h.ap, h.lie, hq.1, Nat.lt_of_lt_of_le hq.2 hz⟩
end
theorem RH.made {w0 w1 : World} {S code : Int} {N : List Nd} {V : List Ve} {ns : List Nat} {C : List Ch} {f : Nat → Br} {e : Ending} (h : HOut w0 w1 S N V ns.length f C code e) : ∃ An cn Av cv Ab cb Ac cc vs, e = .returned (.agg #[.int .i64 S, .slice An N.length cn, .slice Av V.length cv, .slice Ab ns.length cb, .slice Ac C.length cc, .int .i64 code]) ∧ RH (w1.alloc (.cells #[.int .i64 S, .slice An N.length cn, .slice Av V.length cv, .slice Ab ns.length cb, .slice Ac C.length cc, .int .i64 code] 59)) w1.heap.size w1.heap.size S An cn Av cv Ab cb Ac cc N V ns C code f vs w0.heap.size ∧ Below w0.heap.size w0 w1 := by
  obtain ⟨An, cn, Av, cv, Ab, cb, Ac, cc, vs, h1, h2, h3, h4, h5⟩ := h
  have hb : Below w1.heap.size w1 (w1.alloc (.cells #[.int .i64 S, .slice An N.length cn, .slice Av V.length cv, .slice Ab ns.length cb, .slice Ac C.length cc, .int .i64 code] 59)) := (Below.refl _ _).alloc (Nat.le_refl _) _
  refine ⟨An, cn, Av, cv, Ab, cb, Ac, cc, vs, h1, ⟨HB6.made _ _ _ _ _ _ _ _, h2.keep hb, h3.keep hb, h4, fun k hk => ?_, ⟨h5.size, Nat.le_refl _⟩, by simp⟩, h5⟩
  rcases hk with hk | hk
  · exact h2.lt hk
  · exact World.ownsRow.lt h3 k hk
set_option maxRecDepth 100000 in
set_option maxHeartbeats 4000000 in
theorem histNew_walk (side : Int) (w : World) :
    Calls Try.prog 5 #[.int .i64 side] w fun e w' => e = .returned (.bool true) ∧ Below w.heap.size w w' := by
  have hM := fun w => mHistNew_any side w
  have hI := fun w => pHistNew_any side w
  have hfacts : (∀ j, j < (hL side).length → (newF j).redo.length = (hL side).getD j 0) ∧ (hN side).length ≤ 1 ∧ (hV side).length ≤ 1 ∧ (hL side).length ≤ 1 ∧ kAt (1 + 5 * (hN side).length + 3 * (hV side).length) (hL side) (hL side).length ≤ 1000000 ∧ (∀ n ∈ brList (hL side).length newF, n.redo.length ≤ 1000000000) := by
    cases hs : sideOk side
    · simp [hL, hN, hV, hs, kAt, brList]
    · simp [hL, hN, hV, hs, kAt, brList, newF]
  generalize hL side = ns at *
  generalize hN side = N at *
  generalize hV side = V at *
  generalize hS side = S at *
  generalize hC side = code at *
  generalize newF = f at *
  obtain ⟨Cl, hCl⟩ : ∃ Cl : List Ch, Cl = [] := ⟨_, rfl⟩
  rw [← hCl] at hM hI
  have hCn : Cl.length ≤ 10 := by rw [hCl]; simp
  clear hCl
  obtain ⟨hns, hNl, hVl, hLl, hK, hbr⟩ := hfacts
  have HNS := Lib.hid hns
  have HK0 := Lib.hid hK
  have hEq := fun (An2 Av2 Ab2 Ac2 An Av Ab Ac : Option Addr) (cn2 cv2 cb2 cc2 cn cv cb cc : Nat) w h h' k k' => eqHistOut_any S code An2 Av2 Ab2 Ac2 An Av Ab Ac cn2 cv2 cb2 cc2 cn cv cb cc N V (brList ns.length f) Cl w h h' k k' (by omega) (by omega) (by rw [brList_length]; omega) (by omega) hbr
  simp only [brList_length] at hEq
  clear hns hK hbr
  go_enter Try.func5, Try.ntmps5
  go_wp2_with fail
  refine (hM w).mono ?_
  rintro e w1 h1
  obtain ⟨An, cn, Av, cv, Ab, cb, Ac, cc, vs, rfl, r1, hb1⟩ := RH.made h1
  have R1 := Lib.hid r1
  have HB1 : Hid (Below w.heap.size w (w1.alloc (.cells #[.int .i64 S, .slice An N.length cn, .slice Av V.length cv, .slice Ab ns.length cb, .slice Ac Cl.length cc, .int .i64 code] 59))) := hb1.trans (((Below.refl _ _).alloc (Nat.le_refl _) _).mono hb1.size)
  clear h1 r1 hb1 hM
  go_wp2_with fail
  generalize w1.alloc (.cells #[.int .i64 S, .slice An N.length cn, .slice Av V.length cv, .slice Ab ns.length cb, .slice Ac Cl.length cc, .int .i64 code] 59) = W1 at *
  generalize w1.heap.size = q1 at *
  refine (hI W1).mono ?_
  rintro e w2 h2
  obtain ⟨An2, cn2, Av2, cv2, Ab2, cb2, Ac2, cc2, vs2, rfl, r2, hb2⟩ := RH.made h2
  have hbA : Below w2.heap.size w2 (w2.alloc (.cells #[.int .i64 S, .slice An2 N.length cn2, .slice Av2 V.length cv2, .slice Ab2 ns.length cb2, .slice Ac2 Cl.length cc2, .int .i64 code] 59)) := (Below.refl _ _).alloc (Nat.le_refl _) _
  have R1b := Lib.hid ((R1.out.on hb2).on hbA)
  have R2 := Lib.hid r2
  have HW : Hid (w.heap.size ≤ W1.heap.size) := HB1.out.size
  have HB2 : Hid (Below w.heap.size w (w2.alloc (.cells #[.int .i64 S, .slice An2 N.length cn2, .slice Av2 V.length cv2, .slice Ab2 ns.length cb2, .slice Ac2 Cl.length cc2, .int .i64 code] 59))) := HB1.out.trans ((hb2.trans (hbA.mono hb2.size)).mono HW.out)
  clear h2 r2 hb2 hbA HB1
  have hq1 : q1 < W1.heap.size := R1.out.hq.2
  clear R1
  obtain ⟨a0, a1, a2, a3, a4, a5⟩ := R2.out.box
  obtain ⟨b0, b1, b2, b3, b4, b5⟩ := R1b.out.box
  go_wp2_with fail
  generalize w2.alloc (.cells #[.int .i64 S, .slice An2 N.length cn2, .slice Av2 V.length cv2, .slice Ab2 ns.length cb2, .slice Ac2 Cl.length cc2, .int .i64 code] 59) = W2 at *
  generalize w2.heap.size = q2 at *
  refine (hEq An2 Av2 Ab2 Ac2 An Av Ab Ac cn2 cv2 cb2 cc2 cn cv cb cc W2 R2.out.own.r R1b.out.own.r R2.out.ch.r R1b.out.ch.r).mono ?_
  rintro e w3 ⟨rfl, hb3⟩
  have R13 := Lib.hid (R1b.out.on hb3)
  have R23 := Lib.hid (R2.out.on hb3)
  have HB3 := Lib.hid (HB2.out.trans (hb3.mono HB2.out.size))
  clear hb3 a0 a1 a2 a3 a4 a5 b0 b1 b2 b3 b4 b5 R1b R2 HB2
  obtain ⟨a0, a1, a2, a3, a4, a5⟩ := R23.out.box
  go_wp2_with fail
  refine (markHistOut_any S code An2 Av2 Ab2 Ac2 cn2 cv2 cb2 cc2 W1.heap.size 1 ns N V Cl f vs2 w3 R23.out.own R23.out.ch R23.out.ap HNS.out (by omega) (by omega) (by omega) (by omega) (by omega) (by omega) HK0.out).mono ?_
  rintro e w4 ⟨he, f', ho4, hf4, hc4, hT⟩
  obtain ⟨K2, hK2⟩ : ∃ K2 : Nat, K2 = kAt (1 + 5 * N.length + 3 * V.length) ns ns.length + 4 * Cl.length := ⟨_, rfl⟩
  rw [← hK2] at he
  have HK2 := Lib.hid hK2
  clear hK2
  subst he
  have hz4 : w3.heap.size ≤ w4.heap.size := hT.size
  have hp : ∀ k, (InHi (.slice An2 N.length cn2) (.slice Av2 V.length cv2) (.slice Ab2 ns.length cb2) ns.length vs2 k ∨ (Value.slice Ac2 Cl.length cc2).ownBlock = some k) → W1.heap.size ≤ k ∧ k < q2 := R23.out.lie
  have R14 := Lib.hid (R13.out.stay (fun k _ hk => hT.block k (by have := R13.out.hq.2; omega) fun e => by have := (hp k e).1; omega) hz4)
  have HX4 := Lib.hid (R23.out.box.at_ (hT.block q2 R23.out.hq.2 fun e => by have := (hp q2 e).2; omega))
  have HB4 := Lib.hid (HB3.out.trans (hT.bel (B := w.heap.size) (fun k e => Nat.le_trans HW.out (hp k e).1) HB3.out.size))
  have HR4 : Hid (RHi w4 An2 Av2 Ab2 (marksN 1 N.length) (marksVe (1 + 5 * N.length) V.length) (marksBr (1 + 5 * N.length + 3 * V.length) ns)) := by
    have := ho4.r
    rw [brList_congr hf4, brList_marks] at this
    exact this
  have HC4 := Lib.hid hc4.r
  have hq24 : q2 < w4.heap.size := by have := R23.out.hq.2; omega
  clear ho4 hf4 hc4 hT hp a0 a1 a2 a3 a4 a5 R13 R23 HB3 hz4 hq1
  have hH := fun w h1 h2 h3 h4 => heldHistOut_any S code An2 Av2 Ab2 Ac2 cn2 cv2 cb2 cc2 1 N.length V.length Cl.length ns w h1 h2 h3 h4 (by omega) (by omega) (by omega) (by omega) (by omega) (by omega) HK0.out
  have HKS := HK0.out
  rw [← HK2.out] at hH
  obtain ⟨a0, a1, a2, a3, a4, a5⟩ := HX4.out
  go_wp2_with fail
  refine (hH w4 HR4.out.n HR4.out.v HR4.out.b HC4.out).mono ?_
  rintro e w5 ⟨rfl, hb5⟩
  have R15 := Lib.hid (R14.out.on hb5)
  have HX5 := Lib.hid (HX4.out.at_ (hb5.block q2 hq24))
  have HR5 := Lib.hid (HR4.out.below hb5)
  have HC5 := Lib.hid ((HC4.out.below hb5).mono hb5.size)
  have HB5 := Lib.hid (HB4.out.trans (hb5.mono HB4.out.size))
  have hq25 : q2 < w5.heap.size := Nat.lt_of_lt_of_le hq24 hb5.size
  clear hb5 a0 a1 a2 a3 a4 a5 R14 HX4 HR4 HC4 HB4 hq24
  have hk0 : decide ((K2 : Int) < 0) = false := by simp
  clear HK2
  go_wp2_with fail
  refine (hI w5).mono ?_
  rintro e w6 h6
  obtain ⟨An3, cn3, Av3, cv3, Ab3, cb3, Ac3, cc3, vs3, rfl, r3, hb6⟩ := RH.made h6
  have hbA : Below w6.heap.size w6 (w6.alloc (.cells #[.int .i64 S, .slice An3 N.length cn3, .slice Av3 V.length cv3, .slice Ab3 ns.length cb3, .slice Ac3 Cl.length cc3, .int .i64 code] 59)) := (Below.refl _ _).alloc (Nat.le_refl _) _
  have hbB := hb6.trans (hbA.mono hb6.size)
  have R16 := Lib.hid (R15.out.on hbB)
  have R3 := Lib.hid r3
  have HX6 := Lib.hid (HX5.out.at_ (hbB.block q2 hq25))
  have HR6 := Lib.hid (HR5.out.below hbB)
  have HC6 := Lib.hid ((HC5.out.below hbB).mono hbB.size)
  have HB6_ := Lib.hid (HB5.out.trans (hbB.mono HB5.out.size))
  have hq26 : q2 < (w6.alloc (.cells #[.int .i64 S, .slice An3 N.length cn3, .slice Av3 V.length cv3, .slice Ab3 ns.length cb3, .slice Ac3 Cl.length cc3, .int .i64 code] 59)).heap.size := Nat.lt_of_lt_of_le hq25 hbB.size
  clear h6 r3 hb6 hbA hbB R15 HX5 HR5 HC5 HB5 hq25 hI
  obtain ⟨a0, a1, a2, a3, a4, a5⟩ := R3.out.box
  obtain ⟨b0, b1, b2, b3, b4, b5⟩ := R16.out.box
  go_wp2_with fail
  generalize w6.alloc (.cells #[.int .i64 S, .slice An3 N.length cn3, .slice Av3 V.length cv3, .slice Ab3 ns.length cb3, .slice Ac3 Cl.length cc3, .int .i64 code] 59) = W6 at *
  generalize w6.heap.size = q3 at *
  refine (hEq An3 Av3 Ab3 Ac3 An Av Ab Ac cn3 cv3 cb3 cc3 cn cv cb cc W6 R3.out.own.r R16.out.own.r R3.out.ch.r R16.out.ch.r).mono ?_
  rintro e w7 ⟨rfl, hb7⟩
  have HX7 := Lib.hid (HX6.out.at_ (hb7.block q2 hq26))
  have HR7 := Lib.hid (HR6.out.below hb7)
  have HC7 := Lib.hid ((HC6.out.below hb7).mono hb7.size)
  have HB7 := Lib.hid (HB6_.out.trans (hb7.mono HB6_.out.size))
  clear hb7 a0 a1 a2 a3 a4 a5 b0 b1 b2 b3 b4 b5 R3 R16 HX6 HR6 HC6 HB6_ hq26 hEq
  obtain ⟨a0, a1, a2, a3, a4, a5⟩ := HX7.out
  go_wp2_with fail
  refine (hH w7 HR7.out.n HR7.out.v HR7.out.b HC7.out).mono ?_
  rintro e w8 ⟨rfl, hb8⟩
  have HB8 := Lib.hid (HB7.out.trans (hb8.mono HB7.out.size))
  clear hb8 a0 a1 a2 a3 a4 a5 HX7 HR7 HC7 HB7 hH
  go_wp2_with fail
  go_ret
  exact ⟨rfl, HB8.out⟩
end Go.Proofs.Ytphkceiafehidaa
