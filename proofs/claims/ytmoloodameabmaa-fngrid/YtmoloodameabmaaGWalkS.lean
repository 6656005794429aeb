/- The exact law of SameGrid, walked for any program whose function keeps its contract. -/
import Derived.Test.YtmoloodameabmaaGWalkF
namespace Go.Proofs.Ytmoloodameabmaa
open Go.RowKit

/-- The two maps that came in stand in their boxes. -/
structure PP (w : World) (side side' : Int) (v v' : Value) (wr : World) : Prop where
  p : GB wr w.heap.size side v
  p' : GB wr (w.heap.size + 1) side' v'
  bel : Below w.heap.size w wr
  sz : w.heap.size + 1 < wr.heap.size
theorem PP.below {w : World} {side side' : Int} {v v' : Value} {wr wr' : World} (h : PP w side side' v v' wr) (hb : Below wr.heap.size wr wr') : PP w side side' v v' wr' :=
  ⟨h.p.below hb (by have := h.sz; omega), h.p'.below hb h.sz, h.bel.trans (hb.mono h.bel.size), Nat.lt_of_lt_of_le h.sz hb.size⟩
theorem PP.drew {w : World} {side side' : Int} {v v' : Value} {wr : World} (h : PP w side side' v v' wr) : PP w side side' v v' wr.drew := h.below (Below.refl _ _).drew

theorem RI.below' {w w' : World} {A : Option Addr} {l : List Int} (h : RI w w.heap.size A l) (hb : Below w.heap.size w w') : RI w' w'.heap.size A l := (h.below hb).mono hb.size
def sliceA : Value → Option Addr | .slice A _ _ => A | _ => none
/-- Behind the program's answer: the boxes of both maps that were handed to it as well. -/
structure XX (w : World) (side side' : Int) (v v' vx vy : Value) (bx by' : Nat) (l l' : List Int) (wr : World) : Prop where
  pp : PP w side side' v v' wr
  x : GB wr bx side vx
  y : GB wr by' side' vy
  ox : RI wr wr.heap.size (sliceA vx) l
  oy : RI wr wr.heap.size (sliceA vy) l'
  hx : bx < wr.heap.size
  hy : by' < wr.heap.size
theorem XX.below {w : World} {side side' : Int} {v v' vx vy : Value} {bx by' : Nat} {l l' : List Int} {wr wr' : World} (h : XX w side side' v v' vx vy bx by' l l' wr) (hb : Below wr.heap.size wr wr') : XX w side side' v v' vx vy bx by' l l' wr' :=
  ⟨h.pp.below hb, h.x.below hb h.hx, h.y.below hb h.hy, h.ox.below' hb, h.oy.below' hb, Nat.lt_of_lt_of_le h.hx hb.size, Nat.lt_of_lt_of_le h.hy hb.size⟩
theorem XX.drew {w : World} {side side' : Int} {v v' vx vy : Value} {bx by' : Nat} {l l' : List Int} {wr : World} (h : XX w side side' v v' vx vy bx by' l l' wr) : XX w side side' v v' vx vy bx by' l l' wr.drew := h.below (Below.refl _ _).drew

def SameGridDoes : Prop := ∀ (side side' : Int) (A A' : Option Addr) (c c' : Nat) (l l' : List Int) (w : World), In64 side ∧ (∀ n ∈ l, In64 n) → In64 side' ∧ (∀ n ∈ l', In64 n) → RI w w.heap.size A l → RI w w.heap.size A' l' → l.length ≤ 1048576 → l'.length ≤ 1048576 → Calls Try.prog 28 #[.agg #[.int .i64 side, .slice A l.length c], .agg #[.int .i64 side', .slice A' l'.length c']] w fun e w' => e = .returned (.bool (sameGrid side side' l l')) ∧ Below w.heap.size w w'

set_option maxRecDepth 100000 in
set_option maxHeartbeats 400000 in
theorem sameGrid_walk (himpl : SameGridDoes) (side : Int) (a : Option Addr) (cap : Nat) (l : List Int) (side' : Int) (a' : Option Addr) (cap' : Nat) (l' : List Int) (w : World) (w0 : InGrid w side a l) (w1 : InGrid w side' a' l') :
    Calls Try.prog 10 #[.agg #[.int .i64 side, .slice a l.length cap], .agg #[.int .i64 side', .slice a' l'.length cap']] w fun e w' => e = .returned (.bool true) ∧ Below w.heap.size w w' := by
  have HS := Lib.hid w0.nums
  have HS' := Lib.hid w1.nums
  have HR := Lib.hid w0.2.1
  have HR' := Lib.hid w1.2.1
  have hlm := w0.2.2.1
  have hlm' := w1.2.2.1
  unfold maxLen at hlm hlm'
  clear w0 w1
  have HP0 : Hid (PP w side side' (.slice a l.length cap) (.slice a' l'.length cap') ((w.alloc (.cells #[.int .i64 side, .slice a l.length cap] 47)).alloc (.cells #[.int .i64 side', .slice a' l'.length cap'] 47))) := by
    refine ⟨(GB.made w side (.slice a l.length cap) 47).below ((Below.refl _ _).alloc (B := w.heap.size + 1) (by simp) _) (by omega), ?_, ((Below.refl _ _).alloc (Nat.le_refl _) _).alloc (by simp) _, by simp⟩
    have := GB.made (w.alloc (.cells #[.int .i64 side, .slice a l.length cap] 47)) side' (.slice a' l'.length cap') 47
    rw [alloc_size] at this
    exact this
  have hsz := fun w => szGrid_any side 1048576 a l.length cap w (by omega) (by decide) (by decide)
  by_cases hl : (l.length : Int) ≤ 1048576
  · rw [if_pos hl] at hsz
    have hleft : (0 : Int) ≤ 1048576 - l.length := by omega
    have hsz' := fun w => szGrid_any side' (1048576 - l.length) a' l'.length cap' w (by omega) hleft (by omega)
    by_cases hl' : (l'.length : Int) ≤ 1048576 - l.length
    · rw [if_pos hl'] at hsz'
      have hleft' : (0 : Int) ≤ 1048576 - l.length - l'.length := by omega
      go_enter Try.func10, Try.ntmps10
      go_wp2_with fail
      refine (hsz _).mono ?_
      rintro e w1 ⟨rfl, hb1⟩
      have HP1 := Lib.hid (HP0.out.below hb1)
      clear hb1
      obtain ⟨p0, p1, _, _⟩ := HP1.out.p
      obtain ⟨q0, q1, _, _⟩ := HP1.out.p'
      go_wp2_with fail
      refine (hsz' _).mono ?_
      rintro e w2 ⟨rfl, hb2⟩
      have HP2 := Lib.hid (HP1.out.below hb2)
      clear hb2 p0 p1 q0 q1
      obtain ⟨p0, p1, _, _⟩ := HP2.out.p
      obtain ⟨q0, q1, _, _⟩ := HP2.out.p'
      go_wp2_with fail
      have HT3 := Lib.hid (toGrid_any side a cap l w2.drew ((HR.out.below HP2.out.drew.bel).mono HP2.out.drew.bel.size) (by omega))
      go_region_held3 (fun w' => w'.cell? ⟨w.heap.size, 0, none⟩ = some (.int .i64 side) ∧ w'.cell? ⟨w.heap.size, 1, none⟩ = some (.slice a l.length cap) ∧ w'.cell? ⟨w.heap.size + 1, 0, none⟩ = some (.int .i64 side') ∧ w'.cell? ⟨w.heap.size + 1, 1, none⟩ = some (.slice a' l'.length cap'))
        (first
          | go_keep
          | exact hk3
          | exact hk4
          | exact hk5)
        (first
          | (go_at_call 29; refine (mSameGrid_any side side' _ _ _ _ l l' w4 HO34.out.ri ho4.ri (by omega) (by omega)).mono ?_; rintro e w5 ⟨rfl, hb5⟩; have HP5 := Lib.hid (HP4.out.below hb5); have hk5 : w5.cell? ⟨w.heap.size, 0, none⟩ = some (.int .i64 side) ∧ w5.cell? ⟨w.heap.size, 1, none⟩ = some (.slice a l.length cap) ∧ w5.cell? ⟨w.heap.size + 1, 0, none⟩ = some (.int .i64 side') ∧ w5.cell? ⟨w.heap.size + 1, 1, none⟩ = some (.slice a' l'.length cap') := ⟨HP5.out.p.c0, HP5.out.p.c1, HP5.out.p'.c0, HP5.out.p'.c1⟩)
          | (go_at_call 34; refine (toGrid_any side' a' cap' l' w3 ((HR'.out.below HP3.out.bel).mono HP3.out.bel.size) (by omega)).mono ?_; rintro e w4 ⟨g4, rfl, ho4, hb4⟩; have HP4 := Lib.hid (HP3.out.below hb4); have HO34 := Lib.hid (ho3.keep hb4); have hk4 : w4.cell? ⟨w.heap.size, 0, none⟩ = some (.int .i64 side) ∧ w4.cell? ⟨w.heap.size, 1, none⟩ = some (.slice a l.length cap) ∧ w4.cell? ⟨w.heap.size + 1, 0, none⟩ = some (.int .i64 side') ∧ w4.cell? ⟨w.heap.size + 1, 1, none⟩ = some (.slice a' l'.length cap') := ⟨HP4.out.p.c0, HP4.out.p.c1, HP4.out.p'.c0, HP4.out.p'.c1⟩)
          | (go_at_call 34; refine HT3.out.mono ?_; rintro e w3 ⟨g3, rfl, ho3, hb3⟩; have HP3 := Lib.hid (HP2.out.drew.below hb3); have hk3 : w3.cell? ⟨w.heap.size, 0, none⟩ = some (.int .i64 side) ∧ w3.cell? ⟨w.heap.size, 1, none⟩ = some (.slice a l.length cap) ∧ w3.cell? ⟨w.heap.size + 1, 0, none⟩ = some (.int .i64 side') ∧ w3.cell? ⟨w.heap.size + 1, 1, none⟩ = some (.slice a' l'.length cap') := ⟨HP3.out.p.c0, HP3.out.p.c1, HP3.out.p'.c0, HP3.out.p'.c1⟩))
      rename_i hheld
      clear hheld hk3 hk4 hk5 hb3 hb4 hb5 ho3 ho4 HO34 HP0 HP1 HP2 HP3 HP4 HT3 p0 p1 q0 q1
      obtain ⟨p0, p1, _, _⟩ := HP5.out.p
      go_wp2_with fail
      refine (toGrid_any side a cap l w5 ((HR.out.below HP5.out.bel).mono HP5.out.bel.size) (by omega)).mono ?_
      rintro e w6 ⟨g6, rfl, ho6, hb6⟩
      have hba6 : Below w6.heap.size w6 (w6.alloc (.cells #[.int .i64 side, .slice (some ⟨g6, 0, none⟩) l.length l.length] 25)) := (Below.refl _ _).alloc (Nat.le_refl _) _
      have HP6 := Lib.hid ((HP5.out.below hb6).below hba6)
      have HG6 := Lib.hid (GB.made w6 side (.slice (some ⟨g6, 0, none⟩) l.length l.length) 25)
      have HO6 := Lib.hid (ho6.alloc (.cells #[.int .i64 side, .slice (some ⟨g6, 0, none⟩) l.length l.length] 25))
      clear hb6 hba6 ho6 p0 p1
      obtain ⟨q0, q1, _, _⟩ := HP6.out.p'
      go_wp2_with fail
      refine (toGrid_any side' a' cap' l' _ ((HR'.out.below HP6.out.bel).mono HP6.out.bel.size) (by omega)).mono ?_
      rintro e w7 ⟨g7, rfl, ho7, hb7⟩
      have hba7 : Below w7.heap.size w7 (w7.alloc (.cells #[.int .i64 side', .slice (some ⟨g7, 0, none⟩) l'.length l'.length] 25)) := (Below.refl _ _).alloc (Nat.le_refl _) _
      have hz7 : w6.heap.size < w7.heap.size := by have := hb7.size; simp at this; omega
      have HX8 : Hid (XX w side side' (.slice a l.length cap) (.slice a' l'.length cap') (.slice (some ⟨g6, 0, none⟩) l.length l.length) (.slice (some ⟨g7, 0, none⟩) l'.length l'.length) w6.heap.size w7.heap.size l l' (w7.alloc (.cells #[.int .i64 side', .slice (some ⟨g7, 0, none⟩) l'.length l'.length] 25))) :=
        ⟨(HP6.out.below hb7).below hba7, (HG6.out.below hb7 (by simp)).below hba7 hz7, GB.made _ _ _ _, (OwnI.keep HO6.out hb7).ri.below' hba7, (ho7.alloc _).ri, by simp; omega, by simp⟩
      clear hb7 hba7 ho7 q0 q1 HP5 HP6 HG6 HO6
      obtain ⟨x0, x1, _, _⟩ := HX8.out.x
      obtain ⟨y0, y1, _, _⟩ := HX8.out.y
      go_wp2_with fail
      generalize w7.alloc (.cells #[.int .i64 side', .slice (some ⟨g7, 0, none⟩) l'.length l'.length] 25) = w8 at *
      refine (himpl side side' _ _ _ _ l l' w8 HS.out HS'.out HX8.out.ox HX8.out.oy (by omega) (by omega)).mono ?_
      rintro e w9 ⟨rfl, hb9⟩
      have HX9 := Lib.hid (HX8.out.below hb9)
      clear hb9 HX8 x0 x1 y0 y1
      obtain ⟨x0, x1, _, _⟩ := HX9.out.x
      obtain ⟨p0, p1, _, _⟩ := HX9.out.pp.p
      go_wp2_with fail
      have HT10 := Lib.hid (toGrid_any side a cap l w9.drew ((HR.out.below HX9.out.drew.pp.bel).mono HX9.out.drew.pp.bel.size) (by omega))
      go_region_held3 (fun w' => w'.cell? ⟨w6.heap.size, 0, none⟩ = some (.int .i64 side) ∧ w'.cell? ⟨w6.heap.size, 1, none⟩ = some (.slice (some ⟨g6, 0, none⟩) l.length l.length) ∧ w'.cell? ⟨w.heap.size, 0, none⟩ = some (.int .i64 side) ∧ w'.cell? ⟨w.heap.size, 1, none⟩ = some (.slice a l.length cap))
        (first
          | go_keep
          | exact hk10
          | exact hk11)
        (first
          | (go_at_call 34; refine HT10.out.mono ?_; rintro e w10 ⟨g10, rfl, ho10, hb10⟩; have HX10 := Lib.hid (HX9.out.drew.below hb10); have hk10 : w10.cell? ⟨w6.heap.size, 0, none⟩ = some (.int .i64 side) ∧ w10.cell? ⟨w6.heap.size, 1, none⟩ = some (.slice (some ⟨g6, 0, none⟩) l.length l.length) ∧ w10.cell? ⟨w.heap.size, 0, none⟩ = some (.int .i64 side) ∧ w10.cell? ⟨w.heap.size, 1, none⟩ = some (.slice a l.length cap) := ⟨HX10.out.x.c0, HX10.out.x.c1, HX10.out.pp.p.c0, HX10.out.pp.p.c1⟩)
          | (go_at_call 35; refine (eqGrid_any side _ _ l.length l.length l w10 HX10.out.ox ho10.ri (by omega)).mono ?_; rintro e w11 ⟨rfl, hb11⟩; have HX11 := Lib.hid (HX10.out.below hb11); have hk11 : w11.cell? ⟨w6.heap.size, 0, none⟩ = some (.int .i64 side) ∧ w11.cell? ⟨w6.heap.size, 1, none⟩ = some (.slice (some ⟨g6, 0, none⟩) l.length l.length) ∧ w11.cell? ⟨w.heap.size, 0, none⟩ = some (.int .i64 side) ∧ w11.cell? ⟨w.heap.size, 1, none⟩ = some (.slice a l.length cap) := ⟨HX11.out.x.c0, HX11.out.x.c1, HX11.out.pp.p.c0, HX11.out.pp.p.c1⟩))
      rename_i hheld
      clear hheld hk10 hk11 hb10 hb11 ho10 HT10 HX10
      clear x0 x1 p0 p1 HX9
      obtain ⟨y0, y1, _, _⟩ := HX11.out.y
      obtain ⟨p0, p1, _, _⟩ := HX11.out.pp.p'
      go_wp2_with fail
      have HT12 := Lib.hid (toGrid_any side' a' cap' l' w11.drew ((HR'.out.below HX11.out.drew.pp.bel).mono HX11.out.drew.pp.bel.size) (by omega))
      go_region_held3 (fun w' => w'.cell? ⟨w7.heap.size, 0, none⟩ = some (.int .i64 side') ∧ w'.cell? ⟨w7.heap.size, 1, none⟩ = some (.slice (some ⟨g7, 0, none⟩) l'.length l'.length) ∧ w'.cell? ⟨w.heap.size + 1, 0, none⟩ = some (.int .i64 side') ∧ w'.cell? ⟨w.heap.size + 1, 1, none⟩ = some (.slice a' l'.length cap'))
        (first
          | go_keep
          | exact hk12
          | exact hk13)
        (first
          | (go_at_call 34; refine HT12.out.mono ?_; rintro e w12 ⟨g12, rfl, ho12, hb12⟩; have HX12 := Lib.hid (HX11.out.drew.below hb12); have hk12 : w12.cell? ⟨w7.heap.size, 0, none⟩ = some (.int .i64 side') ∧ w12.cell? ⟨w7.heap.size, 1, none⟩ = some (.slice (some ⟨g7, 0, none⟩) l'.length l'.length) ∧ w12.cell? ⟨w.heap.size + 1, 0, none⟩ = some (.int .i64 side') ∧ w12.cell? ⟨w.heap.size + 1, 1, none⟩ = some (.slice a' l'.length cap') := ⟨HX12.out.y.c0, HX12.out.y.c1, HX12.out.pp.p'.c0, HX12.out.pp.p'.c1⟩)
          | (go_at_call 35; refine (eqGrid_any side' _ _ l'.length l'.length l' w12 HX12.out.oy ho12.ri (by omega)).mono ?_; rintro e w13 ⟨rfl, hb13⟩; have HX13 := Lib.hid (HX12.out.below hb13); have hk13 : w13.cell? ⟨w7.heap.size, 0, none⟩ = some (.int .i64 side') ∧ w13.cell? ⟨w7.heap.size, 1, none⟩ = some (.slice (some ⟨g7, 0, none⟩) l'.length l'.length) ∧ w13.cell? ⟨w.heap.size + 1, 0, none⟩ = some (.int .i64 side') ∧ w13.cell? ⟨w.heap.size + 1, 1, none⟩ = some (.slice a' l'.length cap') := ⟨HX13.out.y.c0, HX13.out.y.c1, HX13.out.pp.p'.c0, HX13.out.pp.p'.c1⟩))
      rename_i hheld
      clear hheld hk12 hk13 hb12 hb13 ho12 HT12 HX12
      clear y0 y1 p0 p1 HX11
      go_wp2
      go_ret
      exact ⟨rfl, HX13.out.pp.bel⟩
    · rw [if_neg hl'] at hsz'
      go_enter Try.func10, Try.ntmps10
      go_wp2_with fail
      refine (hsz _).mono ?_
      rintro e w1 ⟨rfl, hb1⟩
      have HP1 := Lib.hid (HP0.out.below hb1)
      clear hb1
      obtain ⟨q0, q1, _, _⟩ := HP1.out.p'
      go_wp2_with fail
      refine (hsz' _).mono ?_
      rintro e w2 ⟨rfl, hb2⟩
      have HP2 := Lib.hid (HP1.out.below hb2)
      clear hb2 q0 q1
      go_wp2
      go_ret
      exact ⟨rfl, HP2.out.bel⟩
  · rw [if_neg hl] at hsz
    go_enter Try.func10, Try.ntmps10
    go_wp2_with fail
    refine (hsz _).mono ?_
    rintro e w1 ⟨rfl, hb1⟩
    have HP1 := Lib.hid (HP0.out.below hb1)
    clear hb1
    go_wp2
    go_ret
    exact ⟨rfl, HP1.out.bel⟩
end Go.Proofs.Ytmoloodameabmaa
