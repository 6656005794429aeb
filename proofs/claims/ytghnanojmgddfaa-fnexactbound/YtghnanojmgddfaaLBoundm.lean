/- FnExactBound: for every input the law returns true, and its arguments read as before. No condition beyond the row's own. -/
import Derived.Test.YtghnanojmgddfaaRows
import Derived.WalkKit
import Derived.ProofKit
import Derived.OpenShut
import Derived.ShutString
import Derived.ChangeOld
import Derived.Below
import Derived.WalkSpells
import Derived.WalkLawsBesides
import Derived.Lib.Hide
import Derived.Test.YtghnanojmgddfaaMSe
import Derived.Test.YtghnanojmgddfaaTbT
namespace Go.Proofs.Ytghnanojmgddfaa.fnExactBound
open Go.ChangeShapes Go.WideShapes Go.ChangeAt Go.RowKit
open Go.ChangeMaps (open_string shut_string)
set_option linter.unusedVariables false

theorem own : ownKnob Try.prog.godebug = none := by kernel_rfl
theorem laidOut : laidOutB Try.prog = true := by kernel_rfl

/-- All boxes of the law, and the rows of the arguments. -/
structure FB (w : World) (s0 : Int) (a0 : Option Addr) (c0 : Nat) (l0 : List Int) (v1 v2 : Value) (X2 Y2 X3 Y3 : Int) (l1 : List Pl) (m1 : List Int) (x1 x2 r0 r1 r2 : Nat) (wr : World) : Prop where
  b : B5 w s0 a0 c0 l0 v1 v2 X2 Y2 X3 Y3 wr
  g : GB wr x1 s0 (.slice (some ⟨r0, 0, none⟩) l0.length l0.length)
  t : TB wr x2 (.slice (some ⟨r1, 0, none⟩) l1.length l1.length) (.slice (some ⟨r2, 0, none⟩) m1.length m1.length)
  o0 : OwnI 2 .i64 wr w.heap.size (.slice (some ⟨r0, 0, none⟩) l0.length l0.length) l0
  o1 : OwnPl wr w.heap.size (.slice (some ⟨r1, 0, none⟩) l1.length l1.length) l1
  o2 : OwnI 2 .i64 wr w.heap.size (.slice (some ⟨r2, 0, none⟩) m1.length m1.length) m1
  z : x1 < wr.heap.size ∧ x2 < wr.heap.size
theorem FB.below {w wr wr' : World} {s0 : Int} {a0 : Option Addr} {c0 : Nat} {l0 : List Int} {v1 v2 : Value} {X2 Y2 X3 Y3 : Int} {l1 : List Pl} {m1 : List Int} {x1 x2 r0 r1 r2 : Nat} (h : FB w s0 a0 c0 l0 v1 v2 X2 Y2 X3 Y3 l1 m1 x1 x2 r0 r1 r2 wr) (hb : Below wr.heap.size wr wr') : FB w s0 a0 c0 l0 v1 v2 X2 Y2 X3 Y3 l1 m1 x1 x2 r0 r1 r2 wr' :=
  ⟨h.b.below hb, h.g.below hb h.z.1, h.t.below hb h.z.2, OwnI.keep h.o0 hb, h.o1.keep hb, OwnI.keep h.o2 hb, Nat.lt_of_lt_of_le h.z.1 hb.size, Nat.lt_of_lt_of_le h.z.2 hb.size⟩

set_option maxRecDepth 100000 in
set_option maxHeartbeats 4000000 in
theorem walk (s0 : Int) (a0 : Option Addr) (c0 : Nat) (l0 : List Int) (a1 : Option Addr) (c1 : Nat) (l1 : List Pl) (e1 : Option Addr) (f1 : Nat) (m1 : List Int) (X2 Y2 X3 Y3 : Int) (w : World) (h0 : InGrid w s0 a0 l0) (h1 : InTab w a1 l1 e1 m1) (h2 : (Lit.int .i64 X2).wf = true ∧ (Lit.int .i64 Y2).wf = true) (h3 : (Lit.int .i64 X3).wf = true ∧ (Lit.int .i64 Y3).wf = true) :
    Calls Try.prog 6 #[.agg #[.int .i64 s0, .slice a0 l0.length c0], .agg #[.slice a1 l1.length c1, .slice e1 m1.length f1], .agg #[.int .i64 X2, .int .i64 Y2], .agg #[.int .i64 X3, .int .i64 Y3]] w fun e w' => e = .returned (.bool true) ∧ Below w.heap.size w w' := by
  have HR0 := Lib.hid h0.2.1
  have hlm0 := h0.2.2.1
  have HR1 := Lib.hid h1.1.1
  have hlm1 := h1.1.2.1
  have HS1 := Lib.hid h1.1.2.2
  have HRD := Lib.hid h1.2.1
  have hlm2 := h1.2.2.1
  have HX2 := Lib.hid (And.intro (bounds_i64 h2.1) (bounds_i64 h2.2))
  have HX3 := Lib.hid (And.intro (bounds_i64 h3.1) (bounds_i64 h3.2))
  unfold maxLen at hlm0 hlm1 hlm2
  clear h0 h1 h2 h3
  have HB0 : Hid (B5 w s0 a0 c0 l0 (.slice a1 l1.length c1) (.slice e1 m1.length f1) X2 Y2 X3 Y3 ((((w.alloc (.cells #[.int .i64 s0, .slice a0 l0.length c0] 50)).alloc (.cells #[.slice a1 l1.length c1, .slice e1 m1.length f1] 62)).alloc (.cells #[.int .i64 X2, .int .i64 Y2] 51)).alloc (.cells #[.int .i64 X3, .int .i64 Y3] 51))) := by
    refine ⟨⟨by simp [go_sem], by simp [go_sem], by simp [go_sem], by simp [go_sem]⟩, ⟨by simp [go_sem], by simp [go_sem], by simp [go_sem], by simp [go_sem]⟩, ⟨by simp [go_sem], by simp [go_sem]⟩, ⟨by simp [go_sem], by simp [go_sem]⟩, bel_T (bel_A _ _) (bel_T (bel_A _ _) (bel_T (bel_A _ _) (bel_A _ _))), by simp⟩
  have HS : Hid (∀ w', B5 w s0 a0 c0 l0 (.slice a1 l1.length c1) (.slice e1 m1.length f1) X2 Y2 X3 Y3 w' → w'.cell? ⟨w.heap.size, 0, none⟩ = some (.int .i64 s0) ∧ w'.cell? ⟨w.heap.size, 1, none⟩ = some (.slice a0 l0.length c0) ∧ w'.cell? ⟨w.heap.size + 1, 0, none⟩ = some (.slice a1 l1.length c1) ∧ w'.cell? ⟨w.heap.size + 1, 1, none⟩ = some (.slice e1 m1.length f1) ∧ w'.cell? ⟨w.heap.size + 1 + 1, 0, none⟩ = some (.int .i64 X2) ∧ w'.cell? ⟨w.heap.size + 1 + 1, 1, none⟩ = some (.int .i64 Y2) ∧ w'.cell? ⟨w.heap.size + 1 + 1 + 1, 0, none⟩ = some (.int .i64 X3) ∧ w'.cell? ⟨w.heap.size + 1 + 1 + 1, 1, none⟩ = some (.int .i64 Y3)) := fun w' h => ⟨h.g.c0, h.g.c1, h.t.c0, h.t.c1, h.a.c0, h.a.c1, h.b.c0, h.b.c1⟩
  have hsz0 := fun w => szGrid_any s0 1048576 a0 l0.length c0 w (by omega) (by decide) (by decide)
  by_cases hl0 : (l0.length : Int) ≤ 1048576
  · rw [if_pos hl0] at hsz0
    have hsz1 := fun w => szTables_any a1 l1.length c1 e1 m1.length f1 (1048576 - l0.length) w (by omega) (by omega) (by omega) (by omega)
    have hleft : (0 : Int) ≤ 1048576 - l0.length := by omega
    by_cases hl1 : (l1.length : Int) + m1.length ≤ 1048576 - l0.length
    · rw [if_pos hl1] at hsz1
      have hleft2 : (0 : Int) ≤ 1048576 - l0.length - l1.length - m1.length := by omega
      obtain ⟨D, hD⟩ := isb_any s0 l0 l1
      have hM := fun A0 c0' g c1' g2 c2' w hA hB hC => mBound_any s0 A0 c0' l0 g 0 c1' l1 (some ⟨g2, 0, none⟩) c2' m1 X2 Y2 X3 Y3 D w hA hB hC (by omega) (by omega) (by omega) hD
      have hI := fun A0 c0' g c1' g2 c2' w hA hB hC hcap => pBound_any s0 A0 c0' l0 g 0 c1' l1 g2 0 c2' m1 X2 Y2 X3 Y3 D w hA hB hC (by omega) (by omega) (by omega) hcap HX2.out.1 HX2.out.2 HX3.out.1 HX3.out.2 (fun i hi => ⟨bounds_i64 (HS1.out _ (List.getElem_mem hi)).1, bounds_i64 (HS1.out _ (List.getElem_mem hi)).2⟩) hD
      generalize boundOut s0 l0 l1 m1 X2 Y2 X3 Y3 D = R at *
      clear hD
      obtain ⟨g0, g1, t0, t1, p0, p1, p2, p3⟩ := HS.out _ HB0.out
      go_enter Try.func6, Try.ntmps6
      go_wp2_with fail
      refine (hsz0 _).mono ?_
      rintro e w1 ⟨rfl, hb⟩
      have HB1 := Lib.hid (HB0.out.below hb)
      clear hb HB0 g0 g1 t0 t1 p0 p1 p2 p3 hsz0
      obtain ⟨g0, g1, t0, t1, p0, p1, p2, p3⟩ := HS.out _ HB1.out
      go_wp2_with fail
      refine (hsz1 _).mono ?_
      rintro e w2 ⟨rfl, hb⟩
      have HB2 := Lib.hid (HB1.out.below hb)
      clear hb HB1 g0 g1 t0 t1 p0 p1 p2 p3 hsz1
      go_upto_region 8 with fail
      have q0 := HB2.out.below (bel_D _)
      have hkeep := HS.out _ q0
      go_region_held3 (fun w' => w'.cell? ⟨w.heap.size, 0, none⟩ = some (.int .i64 s0) ∧ w'.cell? ⟨w.heap.size, 1, none⟩ = some (.slice a0 l0.length c0) ∧ w'.cell? ⟨w.heap.size + 1, 0, none⟩ = some (.slice a1 l1.length c1) ∧ w'.cell? ⟨w.heap.size + 1, 1, none⟩ = some (.slice e1 m1.length f1) ∧ w'.cell? ⟨w.heap.size + 1 + 1, 0, none⟩ = some (.int .i64 X2) ∧ w'.cell? ⟨w.heap.size + 1 + 1, 1, none⟩ = some (.int .i64 Y2) ∧ w'.cell? ⟨w.heap.size + 1 + 1 + 1, 0, none⟩ = some (.int .i64 X3) ∧ w'.cell? ⟨w.heap.size + 1 + 1 + 1, 1, none⟩ = some (.int .i64 Y3))
        (first | (with_reducible exact hkeep) | go_keep)
        (first
          | (go_at_call 25; refine (hM _ _ _ _ _ _ v4 O1d.out.ri O2c.out.r O3c.out.ri).mono ?_; rintro e v5 ⟨rfl, hb⟩; clear hkeep; have q5 := q4.below hb; have hkeep := HS.out _ q5; clear hb)
          | (go_at_call 28; have _c := q3; clear _c; refine (toPl_v X3 Y3 v3).mono ?_; rintro e v4 ⟨rfl, hb⟩; clear hkeep; have q4 := q3.below hb; have hkeep := HS.out _ q4; have O1d := Lib.hid (OwnI.keep O1c.out hb); have O2c := Lib.hid (O2b.out.keep hb); have O3c := Lib.hid (OwnI.keep O3b.out hb); clear hb)
          | (go_at_call 28; have _c := q2; clear _c; refine (toPl_v X2 Y2 v2).mono ?_; rintro e v3 ⟨rfl, hb⟩; clear hkeep; have q3 := q2.below hb; have hkeep := HS.out _ q3; have O1c := Lib.hid (OwnI.keep O1b.out hb); have O2b := Lib.hid (O2.out.keep hb); have O3b := Lib.hid (OwnI.keep O3.out hb); clear hb)
          | (go_at_call 35; have _c := q1; clear _c; refine (toTables_any a1 c1 l1 e1 f1 m1 v1 ((HR1.out.below q1.bel).mono q1.bel.size) ((HRD.out.below q1.bel).mono q1.bel.size) (by omega) (by omega)).mono ?_; rintro e v2 ⟨g2, g3, rfl, o2, o3, hb⟩; clear hkeep; have q2 := q1.below hb; have hkeep := HS.out _ q2; have O1b := Lib.hid (OwnI.keep O1.out hb); have O2 := Lib.hid o2; have O3 := Lib.hid o3; clear hb o2 o3)
          | (go_at_call 27; refine (toGrid_any s0 a0 c0 l0 w2.drew ((HR0.out.below q0.bel).mono q0.bel.size) (by omega)).mono ?_; rintro e v1 ⟨g1, rfl, o1, hb⟩; clear hkeep; have q1 := q0.below hb; have hkeep := HS.out _ q1; have O1 := Lib.hid o1; clear hb o1))
      all_goals
        have Q5 := Lib.hid q5
        clear hkeep q0 q1 q2 q3 q4 q5 O1 O1b O1c O1d O2 O2b O2c O3 O3b O3c HB2 hM
        obtain ⟨g0, g1, t0, t1, p0, p1, p2, p3⟩ := HS.out _ Q5.out
        go_wp2_with fail
        refine (toGrid_any s0 a0 c0 l0 _ ((HR0.out.below Q5.out.bel).mono Q5.out.bel.size) (by omega)).mono ?_
        rintro e w6 ⟨r0, rfl, o6, hb⟩
        have Q6 := Lib.hid ((Q5.out.below hb).below (bel_A w6 (.cells #[.int .i64 s0, .slice (some ⟨r0, 0, none⟩) l0.length l0.length] 25)))
        have O6 := Lib.hid (OwnI.keep (OwnI.lower Q5.out.bel.size o6) (bel_A w6 (.cells #[.int .i64 s0, .slice (some ⟨r0, 0, none⟩) l0.length l0.length] 25)))
        have G6 := Lib.hid (GB.made w6 s0 (.slice (some ⟨r0, 0, none⟩) l0.length l0.length) 25)
        have hz6 : w6.heap.size < (w6.alloc (.cells #[.int .i64 s0, .slice (some ⟨r0, 0, none⟩) l0.length l0.length] 25)).heap.size := by simp
        have Z6 := Lib.hid hz6
        clear hb o6 g0 g1 t0 t1 p0 p1 p2 p3 Q5 hz6
        obtain ⟨g0, g1, t0, t1, p0, p1, p2, p3⟩ := HS.out _ Q6.out
        go_wp2_with fail
        generalize w6.alloc (.cells #[.int .i64 s0, .slice (some ⟨r0, 0, none⟩) l0.length l0.length] 25) = w7 at *
        generalize w6.heap.size = x1 at *
        refine (toTables_any a1 c1 l1 e1 f1 m1 _ ((HR1.out.below Q6.out.bel).mono Q6.out.bel.size) ((HRD.out.below Q6.out.bel).mono Q6.out.bel.size) (by omega) (by omega)).mono ?_
        rintro e w8 ⟨r1, r2, rfl, o8, o9, hb⟩
        have F8 : Hid (FB w s0 a0 c0 l0 (.slice a1 l1.length c1) (.slice e1 m1.length f1) X2 Y2 X3 Y3 l1 m1 x1 w8.heap.size r0 r1 r2 (w8.alloc (.cells #[.slice (some ⟨r1, 0, none⟩) l1.length l1.length, .slice (some ⟨r2, 0, none⟩) m1.length m1.length] 45))) := by
          have hb2 := bel_T hb (bel_A w8 (.cells #[.slice (some ⟨r1, 0, none⟩) l1.length l1.length, .slice (some ⟨r2, 0, none⟩) m1.length m1.length] 45))
          exact ⟨Q6.out.below hb2, G6.out.below hb2 Z6.out, TB.made _ _ _ _, OwnI.keep O6.out hb2, (OwnPl.lower Q6.out.bel.size o8).keep (bel_A _ _), OwnI.keep (OwnI.lower Q6.out.bel.size o9) (bel_A _ _), Nat.lt_of_lt_of_le Z6.out hb2.size, by simp⟩
        clear hb o8 o9 g0 g1 t0 t1 p0 p1 p2 p3 Q6 O6 G6 Z6
        go_upto_region 11 with fail
        generalize w8.alloc (.cells #[.slice (some ⟨r1, 0, none⟩) l1.length l1.length, .slice (some ⟨r2, 0, none⟩) m1.length m1.length] 45) = w9 at *
        generalize w8.heap.size = x2 at *
        have HS2 : Hid (∀ w', FB w s0 a0 c0 l0 (.slice a1 l1.length c1) (.slice e1 m1.length f1) X2 Y2 X3 Y3 l1 m1 x1 x2 r0 r1 r2 w' → w'.cell? ⟨w.heap.size, 0, none⟩ = some (.int .i64 s0) ∧ w'.cell? ⟨w.heap.size, 1, none⟩ = some (.slice a0 l0.length c0) ∧ w'.cell? ⟨w.heap.size + 1, 0, none⟩ = some (.slice a1 l1.length c1) ∧ w'.cell? ⟨w.heap.size + 1, 1, none⟩ = some (.slice e1 m1.length f1) ∧ w'.cell? ⟨w.heap.size + 1 + 1, 0, none⟩ = some (.int .i64 X2) ∧ w'.cell? ⟨w.heap.size + 1 + 1, 1, none⟩ = some (.int .i64 Y2) ∧ w'.cell? ⟨w.heap.size + 1 + 1 + 1, 0, none⟩ = some (.int .i64 X3) ∧ w'.cell? ⟨w.heap.size + 1 + 1 + 1, 1, none⟩ = some (.int .i64 Y3) ∧ w'.cell? ⟨x1, 0, none⟩ = some (.int .i64 s0) ∧ w'.cell? ⟨x1, 1, none⟩ = some (.slice (some ⟨r0, 0, none⟩) l0.length l0.length) ∧ w'.cell? ⟨x2, 0, none⟩ = some (.slice (some ⟨r1, 0, none⟩) l1.length l1.length) ∧ w'.cell? ⟨x2, 1, none⟩ = some (.slice (some ⟨r2, 0, none⟩) m1.length m1.length)) := by
          intro w' h
          obtain ⟨k0, k1, k2, k3, k4, k5, k6, k7⟩ := HS.out w' h.b
          exact ⟨k0, k1, k2, k3, k4, k5, k6, k7, h.g.c0, h.g.c1, h.t.c0, h.t.c1⟩
        clear HS
        have q0 := F8.out.below (bel_D _)
        have hkeep := HS2.out _ q0
        go_region_held3 (fun w' => w'.cell? ⟨w.heap.size, 0, none⟩ = some (.int .i64 s0) ∧ w'.cell? ⟨w.heap.size, 1, none⟩ = some (.slice a0 l0.length c0) ∧ w'.cell? ⟨w.heap.size + 1, 0, none⟩ = some (.slice a1 l1.length c1) ∧ w'.cell? ⟨w.heap.size + 1, 1, none⟩ = some (.slice e1 m1.length f1) ∧ w'.cell? ⟨w.heap.size + 1 + 1, 0, none⟩ = some (.int .i64 X2) ∧ w'.cell? ⟨w.heap.size + 1 + 1, 1, none⟩ = some (.int .i64 Y2) ∧ w'.cell? ⟨w.heap.size + 1 + 1 + 1, 0, none⟩ = some (.int .i64 X3) ∧ w'.cell? ⟨w.heap.size + 1 + 1 + 1, 1, none⟩ = some (.int .i64 Y3) ∧ w'.cell? ⟨x1, 0, none⟩ = some (.int .i64 s0) ∧ w'.cell? ⟨x1, 1, none⟩ = some (.slice (some ⟨r0, 0, none⟩) l0.length l0.length) ∧ w'.cell? ⟨x2, 0, none⟩ = some (.slice (some ⟨r1, 0, none⟩) l1.length l1.length) ∧ w'.cell? ⟨x2, 1, none⟩ = some (.slice (some ⟨r2, 0, none⟩) m1.length m1.length))
          (first | (with_reducible exact hkeep) | go_keep)
          (first
            | (go_at_call 24; refine (hI _ _ _ _ _ _ v2 q2.o0.ri q2.o1.r q2.o2.ri (Nat.le_refl _)).mono ?_; rintro e v3 ⟨rfl, hb⟩; clear hkeep; have q3 := q2.below hb; have hkeep := HS2.out _ q3; clear hb)
            | (go_at_call 28; have _c := q1; clear _c; refine (toPl_v X3 Y3 v1).mono ?_; rintro e v2 ⟨rfl, hb⟩; clear hkeep; have q2 := q1.below hb; have hkeep := HS2.out _ q2; clear hb)
            | (go_at_call 28; refine (toPl_v X2 Y2 w9.drew).mono ?_; rintro e v1 ⟨rfl, hb⟩; clear hkeep; have q1 := q0.below hb; have hkeep := HS2.out _ q1; clear hb))
        all_goals
          have Q3 := Lib.hid q3
          clear hkeep q0 q1 q2 q3 F8 hI
          go_upto_region 14 with fail
          have q0 := Q3.out.below (bel_D _)
          have hkeep := HS2.out _ q0
          go_region_held3 (fun w' => w'.cell? ⟨w.heap.size, 0, none⟩ = some (.int .i64 s0) ∧ w'.cell? ⟨w.heap.size, 1, none⟩ = some (.slice a0 l0.length c0) ∧ w'.cell? ⟨w.heap.size + 1, 0, none⟩ = some (.slice a1 l1.length c1) ∧ w'.cell? ⟨w.heap.size + 1, 1, none⟩ = some (.slice e1 m1.length f1) ∧ w'.cell? ⟨w.heap.size + 1 + 1, 0, none⟩ = some (.int .i64 X2) ∧ w'.cell? ⟨w.heap.size + 1 + 1, 1, none⟩ = some (.int .i64 Y2) ∧ w'.cell? ⟨w.heap.size + 1 + 1 + 1, 0, none⟩ = some (.int .i64 X3) ∧ w'.cell? ⟨w.heap.size + 1 + 1 + 1, 1, none⟩ = some (.int .i64 Y3) ∧ w'.cell? ⟨x1, 0, none⟩ = some (.int .i64 s0) ∧ w'.cell? ⟨x1, 1, none⟩ = some (.slice (some ⟨r0, 0, none⟩) l0.length l0.length) ∧ w'.cell? ⟨x2, 0, none⟩ = some (.slice (some ⟨r1, 0, none⟩) l1.length l1.length) ∧ w'.cell? ⟨x2, 1, none⟩ = some (.slice (some ⟨r2, 0, none⟩) m1.length m1.length))
            (first | (with_reducible exact hkeep) | go_keep)
            (first
              | (go_at_call 30; have _c := q1; clear _c; refine (eqGrid_any s0 _ _ l0.length l0.length l0 v4 q1.o0.ri O4.out.ri (by omega)).mono ?_; rintro e v5 ⟨rfl, hb⟩; clear hkeep; have q2 := q1.below hb; have hkeep := HS2.out _ q2; clear hb)
              | (go_at_call 27; refine (toGrid_any s0 a0 c0 l0 _ ((HR0.out.below q0.b.bel).mono q0.b.bel.size) (by omega)).mono ?_; rintro e v4 ⟨g4, rfl, o4, hb⟩; clear hkeep; have q1 := q0.below hb; have hkeep := HS2.out _ q1; have O4 := Lib.hid o4; clear hb o4))
          all_goals
            have Q4 := Lib.hid q2
            clear hkeep q0 q1 q2 Q3 O4
            go_upto_region 16 with fail
            have q0 := Q4.out.below (bel_D _)
            have hkeep := HS2.out _ q0
            go_region_held3 (fun w' => w'.cell? ⟨w.heap.size, 0, none⟩ = some (.int .i64 s0) ∧ w'.cell? ⟨w.heap.size, 1, none⟩ = some (.slice a0 l0.length c0) ∧ w'.cell? ⟨w.heap.size + 1, 0, none⟩ = some (.slice a1 l1.length c1) ∧ w'.cell? ⟨w.heap.size + 1, 1, none⟩ = some (.slice e1 m1.length f1) ∧ w'.cell? ⟨w.heap.size + 1 + 1, 0, none⟩ = some (.int .i64 X2) ∧ w'.cell? ⟨w.heap.size + 1 + 1, 1, none⟩ = some (.int .i64 Y2) ∧ w'.cell? ⟨w.heap.size + 1 + 1 + 1, 0, none⟩ = some (.int .i64 X3) ∧ w'.cell? ⟨w.heap.size + 1 + 1 + 1, 1, none⟩ = some (.int .i64 Y3) ∧ w'.cell? ⟨x1, 0, none⟩ = some (.int .i64 s0) ∧ w'.cell? ⟨x1, 1, none⟩ = some (.slice (some ⟨r0, 0, none⟩) l0.length l0.length) ∧ w'.cell? ⟨x2, 0, none⟩ = some (.slice (some ⟨r1, 0, none⟩) l1.length l1.length) ∧ w'.cell? ⟨x2, 1, none⟩ = some (.slice (some ⟨r2, 0, none⟩) m1.length m1.length))
              (first | (with_reducible exact hkeep) | go_keep)
              (first
                | (go_at_call 36; have _c := q1; clear _c; refine (eqTables_any _ _ l1.length l1.length _ _ m1.length m1.length l1 m1 v6 q1.o1.r O6.out.r q1.o2.ri O7.out.ri (by omega) (by omega)).mono ?_; rintro e v7 ⟨rfl, hb⟩; clear hkeep; have q2 := q1.below hb; have hkeep := HS2.out _ q2; clear hb)
                | (go_at_call 35; refine (toTables_any a1 c1 l1 e1 f1 m1 _ ((HR1.out.below q0.b.bel).mono q0.b.bel.size) ((HRD.out.below q0.b.bel).mono q0.b.bel.size) (by omega) (by omega)).mono ?_; rintro e v6 ⟨g6, g7, rfl, o6, o7, hb⟩; clear hkeep; have q1 := q0.below hb; have hkeep := HS2.out _ q1; have O6 := Lib.hid o6; have O7 := Lib.hid o7; clear hb o6 o7))
            all_goals
              have Q5 := Lib.hid q2
              clear hkeep q0 q1 q2 Q4
              go_wp2_with fail
              go_ret
              exact ⟨rfl, Q5.out.b.bel⟩
    · rw [if_neg hl1] at hsz1
      obtain ⟨g0, g1, t0, t1, p0, p1, p2, p3⟩ := HS.out _ HB0.out
      go_enter Try.func6, Try.ntmps6
      go_wp2_with fail
      refine (hsz0 _).mono ?_
      rintro e w1 ⟨rfl, hb⟩
      have HB1 := Lib.hid (HB0.out.below hb)
      clear hb HB0 g0 g1 t0 t1 p0 p1 p2 p3 hsz0
      obtain ⟨g0, g1, t0, t1, p0, p1, p2, p3⟩ := HS.out _ HB1.out
      go_wp2_with fail
      refine (hsz1 _).mono ?_
      rintro e w2 ⟨rfl, hb⟩
      have HB2 := Lib.hid (HB1.out.below hb)
      clear hb HB1 g0 g1 t0 t1 p0 p1 p2 p3 hsz1
      go_wp2
      go_ret
      exact ⟨rfl, HB2.out.bel⟩
  · rw [if_neg hl0] at hsz0
    obtain ⟨g0, g1, t0, t1, p0, p1, p2, p3⟩ := HS.out _ HB0.out
    go_enter Try.func6, Try.ntmps6
    go_wp2_with fail
    refine (hsz0 _).mono ?_
    rintro e w1 ⟨rfl, hb⟩
    have HB1 := Lib.hid (HB0.out.below hb)
    clear hb HB0 g0 g1 t0 t1 p0 p1 p2 p3 hsz0
    go_wp2
    go_ret
    exact ⟨rfl, HB1.out.bel⟩

set_option maxRecDepth 100000 in
theorem lifted (os : Os) (started : os.Started) (H : Type) (enc : TypeId × Value → H) :
    ReturnsInHanded {} Try.checked os 6 .any (Rows.fnExactBoundSpec.pre6 enc Try.prog Try.f6 Rows.fnExactBoundRow.domain false) (Rows.fnExactBoundSpec.post enc Try.prog Try.f6 false true false false) := by
  refine returnsInHanded_of_change (C := Try.checked) own started (by kernel_rfl) Try.func6
    (ChangeSpec.witness6 (enc := enc) (C := Try.checked) false ⟨#[], #[.agg #[.int .i64 0, .slice none 0 0], .agg #[.slice none 0 0, .slice none 0 0], .agg #[.int .i64 0, .int .i64 0], .agg #[.int .i64 0, .int .i64 0]], []⟩ 8 (by kernel_rfl) (by kernel_rfl) (by kernel_rfl) (by kernel_rfl)) ?_
  intro W base args ds gs before hval0 hW hcnd _
  have hval : ∀ (j : Nat) t v, Try.f6.params[j]? = some t → args[j]? = some v → Value.okWide Try.prog W .any base t v := hval0
  have hW' := hW
  obtain ⟨p, q, hA0, hV, rfl, hfz, hnd⟩ := hW
  have hA : DataW.TrodAll enc Try.prog W 0 (fun _ => true) true Try.f6.params.toList args.toList ds p := hA0
  rw [Try.params6] at hA hval
  obtain ⟨v0, vs0, d0, ds0, p0, q0, hargs, rfl, rfl, h0, r0⟩ := trodAll_cons hA
  obtain ⟨v1, vs1, d1, ds1, p1, q1, rfl, rfl, rfl, h1, r1⟩ := trodAll_cons r0
  obtain ⟨v2, vs2, d2, ds2, p2, q2, rfl, rfl, rfl, h2, r2⟩ := trodAll_cons r1
  obtain ⟨v3, vs3, d3, ds3, p3, q3, rfl, rfl, rfl, h3, r3⟩ := trodAll_cons r2
  obtain ⟨rfl, rfl, rfl⟩ := trodAll_nil r3
  obtain rfl : args = #[v0, v1, v2, v3] := by cases args; simp_all
  obtain ⟨rfl, rfl⟩ := trodVars_none hV
  have k0 := h0
  have lt0 : ∀ x ∈ p0, x.block < W.heap.size := by obtain ⟨m, hm⟩ := k0; exact DataW.trod_lt m _ _ _ hm
  obtain ⟨side0, a0, cap0, z0, rfl, w0⟩ := open_grid (hval 0 50 v0 rfl rfl) h0
  have k1 := h1
  have lt1 : ∀ x ∈ p1, x.block < W.heap.size := by obtain ⟨m, hm⟩ := k1; exact DataW.trod_lt m _ _ _ hm
  obtain ⟨a1, cap1, z1, e1, f1, m1, rfl, w1⟩ := open_tables (hval 1 62 v1 rfl rfl) h1
  have k2 := h2
  have lt2 : ∀ x ∈ p2, x.block < W.heap.size := by obtain ⟨m, hm⟩ := k2; exact DataW.trod_lt m _ _ _ hm
  obtain ⟨x2, y2, rfl, w2⟩ := open_pl (hval 2 51 v2 rfl rfl) h2
  have k3 := h3
  have lt3 : ∀ x ∈ p3, x.block < W.heap.size := by obtain ⟨m, hm⟩ := k3; exact DataW.trod_lt m _ _ _ hm
  obtain ⟨x3, y3, rfl, w3⟩ := open_pl (hval 3 51 v3 rfl rfl) h3
  clear hA0 hval0
  refine (walk side0 a0 cap0 z0 a1 cap1 z1 e1 f1 m1 x2 y2 x3 y3 W w0 w1 w2 w3).mono fun e W' ⟨he, bel⟩ => ?_
  subst he
  exact ⟨_, rfl, _, _, _, [], _, [], hW', trodAll_mk1 (shut_bool Try.underlying4 _), (trodAll_cons_mk (Below.trod laidOut (by kernel_rfl) (of_decide_eq_true (by kernel_rfl)) k0 bel lt0) (trodAll_cons_mk (Below.trod laidOut (by kernel_rfl) (of_decide_eq_true (by kernel_rfl)) k1 bel lt1) (trodAll_cons_mk (Below.trod laidOut (by kernel_rfl) (of_decide_eq_true (by kernel_rfl)) k2 bel lt2) (trodAll_cons_mk (Below.trod laidOut (by kernel_rfl) (of_decide_eq_true (by kernel_rfl)) k3 bel lt3) trodAll_mk0)))), rfl, bel.frame _, fun h => by cases h⟩

theorem over : Rows.fnExactBoundRow.holds Try.pinned (OpenSpec.ofChange Rows.fnExactBoundSpec) :=
  OpenClaim.holds_of_wide 6 Try.f6 rfl rfl rfl rfl rfl rfl rfl ⟨rfl, rfl, rfl, rfl, rfl⟩ rfl rfl rfl rfl rfl (by kernel_rfl) Try.func6 (by kernel_rfl)
    (of_decide_eq_true (by kernel_rfl)) (by unfold Func.isWrapper; first | (rw [if_pos (by decide +kernel)]; kernel_rfl) | (rw [if_neg (by decide +kernel)]; exact ⟨rfl, rfl⟩))
    (fun os started H enc _ => lifted os started H enc)

end Go.Proofs.Ytghnanojmgddfaa.fnExactBound
namespace Go.Proofs.Ytghnanojmgddfaa
/-- The statement. -/
theorem fnExactBound_holds : Rows.FnExactBoundSaid := fnExactBound.over
end Go.Proofs.Ytghnanojmgddfaa
