/- What the law on maps draws: two maps. -/
import Derived.Test.YtcadjfnfjakbeaaDrE
namespace Go.Proofs.Ytcadjfnfjakbeaa
open Go.RowKit

def SameArgs (w : World) (e : Ending) (w' : World) : Prop := ∃ (side : Int) (A : Option Addr) (c : Nat) (l : List Int) (side' : Int) (A' : Option Addr) (c' : Nat) (l' : List Int), e = .returned (.tuple #[.agg #[.int .i64 side, .slice A l.length c], .agg #[.int .i64 side', .slice A' l'.length c']]) ∧ Small side l ∧ Small side' l' ∧ RI w' w'.heap.size A l ∧ RI w' w'.heap.size A' l' ∧ Below w.heap.size w w'
theorem OwnI.put4 {w wr : World} {g : Nat} {v : Value} {l : List Int} (h : OwnI 2 .i64 wr (g + 1) v l) (hg : w.heap.size + 1 < g) (a b c d : Value) :
    OwnI 2 .i64 ((((wr.setCell ⟨w.heap.size, 0, none⟩ a).setCell ⟨w.heap.size, 1, none⟩ b).setCell ⟨w.heap.size + 1, 0, none⟩ c).setCell ⟨w.heap.size + 1, 1, none⟩ d) (g + 1) v l :=
  OwnI.set_below (by show w.heap.size + 1 < _; omega) _ (OwnI.set_below (by show w.heap.size + 1 < _; omega) _ (OwnI.set_below (by show w.heap.size < _; omega) _ (OwnI.set_below (by show w.heap.size < _; omega) _ h)))

theorem same_fin {w wr : World} {g o c : Nat} {side : Int} {A : Option Addr} {l : List Int} (h : DX w g o side A c l wr) (hg : w.heap.size + 1 < g) (hs : Small side l) {side' : Int} {A' : Option Addr} {c' : Nat} {l' : List Int} (hs' : Small side' l') (ho' : OwnI 2 .i64 wr (g + 1) (.slice A' l'.length c') l') :
    SameArgs w (.returned (.tuple #[.agg #[.int .i64 side, .slice A l.length c], .agg #[.int .i64 side', .slice A' l'.length c']])) ((((wr.setCell ⟨w.heap.size, 0, none⟩ (.int .i64 side)).setCell ⟨w.heap.size, 1, none⟩ (.slice A l.length c)).setCell ⟨w.heap.size + 1, 0, none⟩ (.int .i64 side')).setCell ⟨w.heap.size + 1, 1, none⟩ (.slice A' l'.length c')) :=
  ⟨side, A, c, l, side', A', c', l', rfl, hs, hs', (h.own.put4 hg _ _ _ _).ri, (ho'.put4 hg _ _ _ _).ri, (((h.bel.setCell (by simp) _).setCell (by simp) _).setCell (by simp) _).setCell (by simp) _⟩
theorem SameArgs.drew {w W : World} {e : Ending} (h : SameArgs w e W) : SameArgs w e W.drew := by
  obtain ⟨a, b, c, d, a', b', c', d', h1, h2, h3, h4, h5, h6⟩ := h
  exact ⟨a, b, c, d, a', b', c', d', h1, h2, h3, h4.below (Below.refl _ _).drew, h5.below (Below.refl _ _).drew, h6.drew⟩

set_option maxRecDepth 100000 in
set_option maxHeartbeats 1000000 in
theorem drawSame_any (A : Option Addr) (n c : Nat) (w : World) (hn : n ≤ 1048576) (hin : BytesIn w w.heap.size A n) :
    Calls Try.prog 17 #[.slice A n c] w (SameArgs w) := by
  have HS := Lib.hid (source_any A n c _ hn ((hin.alloc (.cells #[.int .i64 0, .slice none 0 0] 25)).alloc (.cells #[.int .i64 0, .slice none 0 0] 25)))
  have HB0 : Hid (Below w.heap.size w ((w.alloc (.cells #[.int .i64 0, .slice none 0 0] 25)).alloc (.cells #[.int .i64 0, .slice none 0 0] 25))) := ((Below.refl _ _).alloc (Nat.le_refl _) _).alloc (by simp) _
  have HG0 : Hid (GB ((w.alloc (.cells #[.int .i64 0, .slice none 0 0] 25)).alloc (.cells #[.int .i64 0, .slice none 0 0] 25)) w.heap.size 0 (.slice none 0 0)) := (GB.made w 0 (.slice none 0 0) 25).below ((Below.refl _ _).alloc (B := w.heap.size + 1) (by simp) _) (by omega)
  have HR0 : Hid (GB ((w.alloc (.cells #[.int .i64 0, .slice none 0 0] 25)).alloc (.cells #[.int .i64 0, .slice none 0 0] 25)) (w.heap.size + 1) 0 (.slice none 0 0)) := by
    have := GB.made (w.alloc (.cells #[.int .i64 0, .slice none 0 0] 25)) 0 (.slice none 0 0) 25
    rw [alloc_size] at this
    exact this
  simp only [alloc_size] at HS
  clear hin
  go_enter Try.func17, Try.ntmps17
  go_wp2_with fail
  refine HS.out.mono ?_
  rintro e w1 ⟨rfl, hs1, hb1⟩
  have H1 := Lib.hid hs1
  have HG1 := Lib.hid (HG0.out.below hb1 (by omega))
  have HR1 := Lib.hid (HR0.out.below hb1 (by omega))
  have HB1 := Lib.hid (HB0.out.trans (hb1.mono (by omega)))
  have hz1 := hs1.lt
  clear hs1 hb1
  go_wp2_with fail
  refine (grid_any (w.heap.size + 1 + 1) w1 H1.out).mono ?_
  rintro e w2 ⟨side, A2, c2, l2, rfl, hsm, ho2, hd2⟩
  have hb : Below w2.heap.size w2 (w2.alloc (.cells #[.int .i64 side, .slice A2 l2.length c2] 25)) := (Below.refl _ _).alloc (Nat.le_refl _) _
  have HX2 : Hid (DX w (w.heap.size + 1 + 1) w2.heap.size side A2 c2 l2 (w2.alloc (.cells #[.int .i64 side, .slice A2 l2.length c2] 25))) := by
    have hzz := hd2.2.size
    exact ⟨(HG1.out.drewn hd2 (by omega) (by omega)).below hb (by omega), GB.made _ _ _ _, OwnI.lower (by omega) (ho2.alloc _), hd2.1.alloc _, (HB1.out.trans (hd2.below (by omega) (by omega))).trans (hb.mono (by omega)), ⟨by omega, by omega, by simp⟩, fun k hk => (World.ownsRow.lt ho2 k hk).2⟩
  have HR2 := Lib.hid ((HR1.out.drewn hd2 (by omega) (by omega)).below hb (by have := hd2.2.size; omega))
  have HSM := Lib.hid hsm
  clear hsm ho2 hd2 hb
  go_wp2_with fail
  generalize w2.alloc (.cells #[.int .i64 side, .slice A2 l2.length c2] 25) = W at *
  generalize w2.heap.size = o at *
  refine (src_one (w.heap.size + 1 + 1) 2 W HX2.out.src (by omega)).mono ?_
  rintro e w3 ⟨⟨b, rfl⟩, hd3⟩
  have HX3 := Lib.hid (HX2.out.drew hd3)
  have hz3 := HX2.out.siz
  have HR3 := Lib.hid (HR2.out.drewn hd3 (by omega) (by omega))
  clear hd3 HX2 HR2
  have hne1 : ¬ w.heap.size = o := by omega
  have hne2 : ¬ w.heap.size + 1 = o := by omega
  have hne3 : ¬ o = w.heap.size := by omega
  have hne4 : ¬ o = w.heap.size + 1 := by omega
  obtain ⟨c0, c1, f0, f1⟩ := HX3.out.box
  cases b
  · have h65 := HSM.out.2.2.1
    have hRt := fun w h => mRight_any side A2 c2 l2 w h (by omega)
    cases hr : gridRight side l2
    · rw [hr] at hRt
      clear hr
      go_wp2_with fail
      refine (hRt _ HX3.out.own.ri).mono ?_
      rintro e w4 ⟨rfl, hb4⟩
      have HX4 := Lib.hid (HX3.out.below hb4)
      have hz4 := HX3.out.siz
      have HR4 := Lib.hid (HR3.out.below hb4 (by omega))
      clear hb4 c0 c1 f0 f1
      obtain ⟨c0, c1, f0, f1⟩ := HX4.out.box
      obtain ⟨p0, p1, q0, q1⟩ := HX4.out.res
      obtain ⟨r0, r1, s0, s1⟩ := HR4.out
      go_wp2
      go_region
      go_wp2
      exact bodyPost_ret (v := .tuple #[.agg #[.int .i64 side, .slice A2 l2.length c2], .agg #[.int .i64 side, .slice A2 l2.length c2]]) (by simp [results, Try.results17, go_sem, p0, p1, r0, r1]) rfl (same_fin HX4.out (by omega) HSM.out HSM.out HX4.out.own).drew
    · rw [hr] at hRt
      have HRT := Lib.hid hr
      clear hr
      go_wp2_with fail
      refine (hRt _ HX3.out.own.ri).mono ?_
      rintro e w4 ⟨rfl, hb4⟩
      have HX4 := Lib.hid (HX3.out.below hb4)
      have hz4 := HX3.out.siz
      have HR4 := Lib.hid (HR3.out.below hb4 (by omega))
      have hz5 : w.heap.size + 1 + 1 + 1 ≤ w4.heap.size := by have := HX4.out.siz; omega
      clear hb4 c0 c1 f0 f1
      obtain ⟨c0, c1, f0, f1⟩ := HX4.out.box
      have hx5 := HX4.out.tape
      have HR5 : Hid (GB w4.drew (w.heap.size + 1) 0 (.slice none 0 0)) := HR4.out.below (Below.refl (w.heap.size + 1 + 1) _).drew (by omega)
      have hz6 : w.heap.size + 1 < w4.drew.heap.size := by show _ < w4.heap.size; omega
      have HLA := Lib.hid (later_any (w.heap.size + 1 + 1) (w.heap.size + 1 + 1 + 1) side A2 c2 l2 w4.drew hx5.src HRT.out hx5.own (by omega) hz5)
      go_wp2_with fail
      go_region_held3 (fun w' => w'.cell? ⟨o, 0, none⟩ = some (.int .i64 side) ∧ w'.cell? ⟨o, 1, none⟩ = some (.slice A2 l2.length c2))
        (first
          | go_keep
          | exact hk6
          | exact ⟨(World.cell?_setCell_other _ _ _ _ (by simp <;> omega)).trans ((World.cell?_setCell_other _ _ _ _ (by simp <;> omega)).trans hk6.1), (World.cell?_setCell_other _ _ _ _ (by simp <;> omega)).trans ((World.cell?_setCell_other _ _ _ _ (by simp <;> omega)).trans hk6.2)⟩
          | exact ⟨(World.cell?_setCell_other _ _ _ _ (by simp <;> omega)).trans ((World.cell?_setCell_other _ _ _ _ (by simp <;> omega)).trans ((World.cell?_setCell_other _ _ _ _ (by simp <;> omega)).trans ((World.cell?_setCell_other _ _ _ _ (by simp <;> omega)).trans hk6.1))), (World.cell?_setCell_other _ _ _ _ (by simp <;> omega)).trans ((World.cell?_setCell_other _ _ _ _ (by simp <;> omega)).trans ((World.cell?_setCell_other _ _ _ _ (by simp <;> omega)).trans ((World.cell?_setCell_other _ _ _ _ (by simp <;> omega)).trans hk6.2)))⟩)
        (first
          | (go_at_call 62; refine HLA.out.mono ?_; rintro e w6 ⟨A6, c6, l6, rfl, hr6, ho6, hd6⟩; have HX6 := Lib.hid (hx5.drew hd6); have HO6 := Lib.hid ho6; have HS6 := Lib.hid (right_small hr6); have hk6 := HX6.out.held; obtain ⟨p0, p1, q0, q1⟩ := HX6.out.res; obtain ⟨r0, r1, s0, s1⟩ := HR5.out.drewn hd6 (by omega) hz6; clear hr6 ho6 hd6))
      all_goals
        go_wp2
        exact bodyPost_ret (v := .tuple #[.agg #[.int .i64 side, .slice A2 l2.length c2], .agg #[.int .i64 side, .slice A6 l6.length c6]]) (by simp [results, Try.results17, go_sem, p0, p1, r0, r1]) rfl (same_fin HX6.out (by omega) HSM.out HS6.out HO6.out)
  · obtain ⟨p0, p1, q0, q1⟩ := HX3.out.res
    obtain ⟨r0, r1, s0, s1⟩ := HR3.out
    go_wp2
    go_region
    go_wp2
    exact bodyPost_ret (v := .tuple #[.agg #[.int .i64 side, .slice A2 l2.length c2], .agg #[.int .i64 side, .slice A2 l2.length c2]]) (by simp [results, Try.results17, go_sem, p0, p1, r0, r1]) rfl (same_fin HX3.out (by omega) HSM.out HSM.out HX3.out.own).drew
end Go.Proofs.Ytcadjfnfjakbeaa
