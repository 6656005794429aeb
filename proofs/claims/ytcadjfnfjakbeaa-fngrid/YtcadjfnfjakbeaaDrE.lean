/- What the law on maps draws: a map and numbers, two maps. -/
import Derived.Test.YtcadjfnfjakbeaaDrD
namespace Go.Proofs.Ytcadjfnfjakbeaa
open Go.RowKit

/-- What holds while arguments are drawn: the box to hand back, the source in block g, the map in block o. -/
structure DX (w : World) (g o : Nat) (side : Int) (A : Option Addr) (c : Nat) (l : List Int) (wr : World) : Prop where
  res : GB wr w.heap.size 0 (.slice none 0 0)
  box : GB wr o side (.slice A l.length c)
  own : OwnI 2 .i64 wr (g + 1) (.slice A l.length c) l
  src : SrcB wr g
  bel : Below w.heap.size w wr
  siz : w.heap.size < g ∧ g < o ∧ o < wr.heap.size
  low : ∀ k, (Value.slice A l.length c).ownBlock = some k → k < o
section
variable {w wr wr' : World} {g o c : Nat} {side : Int} {A : Option Addr} {l : List Int}
theorem DX.drew (h : DX w g o side A c l wr) (hd : Drew wr g wr') : DX w g o side A c l wr' := by
  obtain ⟨h1, h2, h3⟩ := h.siz
  exact ⟨h.res.drewn hd (by omega) (by omega), h.box.drewn hd (by omega) h3, h.own.drewn hd (by omega), hd.1, h.bel.trans (hd.below (by omega) (by omega)), ⟨h1, h2, Nat.lt_of_lt_of_le h3 hd.2.size⟩, h.low⟩
theorem DX.below (h : DX w g o side A c l wr) (hb : Below wr.heap.size wr wr') : DX w g o side A c l wr' := by
  obtain ⟨h1, h2, h3⟩ := h.siz
  exact ⟨h.res.below hb (by omega), h.box.below hb h3, h.own.keep hb, h.src.keep fun k hk => hb.block k (by omega), h.bel.trans (hb.mono (by omega)), ⟨h1, h2, Nat.lt_of_lt_of_le h3 hb.size⟩, h.low⟩
theorem DX.tape (h : DX w g o side A c l wr) : DX w g o side A c l wr.drew := h.below (Below.refl _ _).drew
theorem DX.held (h : DX w g o side A c l wr) : wr.cell? ⟨o, 0, none⟩ = some (.int .i64 side) ∧ wr.cell? ⟨o, 1, none⟩ = some (.slice A l.length c) := ⟨h.box.c0, h.box.c1⟩
theorem DX.fin (h : DX w g o side A c l wr) : OwnI 2 .i64 ((wr.setCell ⟨w.heap.size, 0, none⟩ (.int .i64 side)).setCell ⟨w.heap.size, 1, none⟩ (.slice A l.length c)) w.heap.size (.slice A l.length c) l ∧ Below w.heap.size w ((wr.setCell ⟨w.heap.size, 0, none⟩ (.int .i64 side)).setCell ⟨w.heap.size, 1, none⟩ (.slice A l.length c)) := by
  obtain ⟨h1, h2, h3⟩ := h.siz
  exact ⟨OwnI.lower (base := g + 1) (by omega) (OwnI.set_below (by show w.heap.size < _; omega) _ (OwnI.set_below (by show w.heap.size < _; omega) _ h.own)), (h.bel.setCell (by simp) _).setCell (by simp) _⟩
end

def TileArgs (w : World) (e : Ending) (w' : World) : Prop := ∃ (side : Int) (A : Option Addr) (c : Nat) (l : List Int) (x y : Int), e = .returned (.tuple #[.agg #[.int .i64 side, .slice A l.length c], .int .i64 x, .int .i64 y]) ∧ Small side l ∧ (-1 ≤ x ∧ x ≤ 4 ∧ -1 ≤ y ∧ y ≤ 4) ∧ OwnI 2 .i64 w' w.heap.size (.slice A l.length c) l ∧ Below w.heap.size w w'
set_option maxRecDepth 100000 in
set_option maxHeartbeats 1000000 in
theorem drawTile_any (A : Option Addr) (n c : Nat) (w : World) (hn : n ≤ 1048576) (hin : BytesIn w w.heap.size A n) :
    Calls Try.prog 16 #[.slice A n c] w (TileArgs w) := by
  have HS := Lib.hid (source_any A n c _ hn (hin.alloc (.cells #[.int .i64 0, .slice none 0 0] 25)))
  have HG0 := Lib.hid (GB.made w 0 (.slice none 0 0) 25)
  have HB0 := Lib.hid ((Below.refl w.heap.size w).alloc (Nat.le_refl _) (.cells #[.int .i64 0, .slice none 0 0] 25))
  simp only [alloc_size] at HS
  clear hin
  go_enter Try.func16, Try.ntmps16
  go_wp2_with fail
  refine HS.out.mono ?_
  rintro e w1 ⟨rfl, hs1, hb1⟩
  have H1 := Lib.hid hs1
  have HG1 := Lib.hid (HG0.out.below hb1 (by omega))
  have HB1 := Lib.hid (HB0.out.trans (hb1.mono (by omega)))
  have hz1 := hs1.lt
  clear hs1 hb1
  go_wp2_with fail
  refine (grid_any (w.heap.size + 1) w1 H1.out).mono ?_
  rintro e w2 ⟨side, A2, c2, l2, rfl, hsm, ho2, hd2⟩
  have HX2 : Hid (DX w (w.heap.size + 1) w2.heap.size side A2 c2 l2 (w2.alloc (.cells #[.int .i64 side, .slice A2 l2.length c2] 25))) := by
    have hb : Below w2.heap.size w2 (w2.alloc (.cells #[.int .i64 side, .slice A2 l2.length c2] 25)) := (Below.refl _ _).alloc (Nat.le_refl _) _
    have hzz := hd2.2.size
    exact ⟨(HG1.out.drewn hd2 (by omega) (by omega)).below hb (by omega), GB.made _ _ _ _, OwnI.lower (by omega) (ho2.alloc _), hd2.1.alloc _, (HB1.out.trans (hd2.below (by omega) (by omega))).trans (hb.mono (by omega)), ⟨by omega, by omega, by simp⟩, fun k hk => (World.ownsRow.lt ho2 k hk).2⟩
  have HSM := Lib.hid hsm
  clear hsm ho2 hd2
  go_wp2_with fail
  generalize w2.alloc (.cells #[.int .i64 side, .slice A2 l2.length c2] 25) = W at *
  generalize w2.heap.size = o at *
  refine (src_n (w.heap.size + 1) 6 W HX2.out.src (by omega)).mono ?_
  rintro e w3 ⟨r, rfl, h1, h2, h3, h4, h5, h6⟩
  have h2' := h2 (by omega)
  have HX3 := Lib.hid (HX2.out.drew ⟨h4, h5⟩)
  have e1 : IntKind.i64.wrap (r - 1) = r - 1 := IntWalk.i64_in _ (by omega)
  clear h2 h3 h4 h5 h6 HX2
  obtain ⟨c0, c1, f0, f1⟩ := HX3.out.box
  have hx4 := HX3.out.tape
  have hz3 := HX3.out.siz
  go_wp2_with fail
  go_region_held3 (fun w' => w'.cell? ⟨o, 0, none⟩ = some (.int .i64 side) ∧ w'.cell? ⟨o, 1, none⟩ = some (.slice A2 l2.length c2))
    (first
      | go_keep
      | exact hk6
      | exact ⟨(World.cell?_setCell_other _ _ _ _ (by simp <;> omega)).trans ((World.cell?_setCell_other _ _ _ _ (by simp <;> omega)).trans hk6.1), (World.cell?_setCell_other _ _ _ _ (by simp <;> omega)).trans ((World.cell?_setCell_other _ _ _ _ (by simp <;> omega)).trans hk6.2)⟩)
    (first
      | (go_at_call 52; refine (src_n (w.heap.size + 1) 6 _ (by with_reducible exact hx4.src) (by omega)).mono ?_; rintro e w4 ⟨r2, rfl, k1, k2, k3, k4, k5, k6⟩; have k2' := k2 (by omega); have HX4 := Lib.hid (hx4.drew ⟨k4, k5⟩); have hk6 := HX4.out.held; obtain ⟨p0, p1, q0, q1⟩ := HX4.out.res; have e2 : IntKind.i64.wrap (r2 - 1) = r2 - 1 := IntWalk.i64_in _ (by omega); clear k2 k3 k4 k5 k6))
  all_goals
    go_wp2
    refine bodyPost_ret (v := .tuple #[.agg #[.int .i64 side, .slice A2 l2.length c2], .int .i64 (r - 1), .int .i64 (r2 - 1)]) (by simp [results, Try.results16, go_sem, p0, p1]) rfl ?_
    exact ⟨side, A2, c2, l2, r - 1, r2 - 1, rfl, HSM.out, ⟨by omega, by omega, by omega, by omega⟩, HX4.out.fin⟩

def In64b (n : Int) : Prop := -9223372036854775808 ≤ n ∧ n ≤ 9223372036854775807
def FillArgs (w : World) (e : Ending) (w' : World) : Prop := ∃ (side : Int) (A : Option Addr) (c : Nat) (l : List Int) (x y wd ht t : Int), e = .returned (.tuple #[.agg #[.int .i64 side, .slice A l.length c], .int .i64 x, .int .i64 y, .int .i64 wd, .int .i64 ht, .int .i64 t]) ∧ Small side l ∧ (In64b x ∧ In64b y ∧ In64b wd ∧ In64b ht ∧ In64b t) ∧ OwnI 2 .i64 w' w.heap.size (.slice A l.length c) l ∧ Below w.heap.size w w'
set_option maxRecDepth 100000 in
set_option maxHeartbeats 1000000 in
theorem drawFill_any (A : Option Addr) (n c : Nat) (w : World) (hn : n ≤ 1048576) (hin : BytesIn w w.heap.size A n) :
    Calls Try.prog 9 #[.slice A n c] w (FillArgs w) := by
  have HS := Lib.hid (source_any A n c _ hn (hin.alloc (.cells #[.int .i64 0, .slice none 0 0] 25)))
  have HG0 := Lib.hid (GB.made w 0 (.slice none 0 0) 25)
  have HB0 := Lib.hid ((Below.refl w.heap.size w).alloc (Nat.le_refl _) (.cells #[.int .i64 0, .slice none 0 0] 25))
  simp only [alloc_size] at HS
  clear hin
  go_enter Try.func9, Try.ntmps9
  go_wp2_with fail
  refine HS.out.mono ?_
  rintro e w1 ⟨rfl, hs1, hb1⟩
  have H1 := Lib.hid hs1
  have HG1 := Lib.hid (HG0.out.below hb1 (by omega))
  have HB1 := Lib.hid (HB0.out.trans (hb1.mono (by omega)))
  have hz1 := hs1.lt
  clear hs1 hb1
  go_wp2_with fail
  refine (grid_any (w.heap.size + 1) w1 H1.out).mono ?_
  rintro e w2 ⟨side, A2, c2, l2, rfl, hsm, ho2, hd2⟩
  have HX2 : Hid (DX w (w.heap.size + 1) w2.heap.size side A2 c2 l2 (w2.alloc (.cells #[.int .i64 side, .slice A2 l2.length c2] 25))) := by
    have hb : Below w2.heap.size w2 (w2.alloc (.cells #[.int .i64 side, .slice A2 l2.length c2] 25)) := (Below.refl _ _).alloc (Nat.le_refl _) _
    have hzz := hd2.2.size
    exact ⟨(HG1.out.drewn hd2 (by omega) (by omega)).below hb (by omega), GB.made _ _ _ _, OwnI.lower (by omega) (ho2.alloc _), hd2.1.alloc _, (HB1.out.trans (hd2.below (by omega) (by omega))).trans (hb.mono (by omega)), ⟨by omega, by omega, by simp⟩, fun k hk => (World.ownsRow.lt ho2 k hk).2⟩
  have HSM := Lib.hid hsm
  clear hsm ho2 hd2
  go_wp2_with fail
  generalize w2.alloc (.cells #[.int .i64 side, .slice A2 l2.length c2] 25) = W at *
  generalize w2.heap.size = o at *
  refine (src_n (w.heap.size + 1) 4 W HX2.out.src (by omega)).mono ?_
  rintro e w3 ⟨x, rfl, hx1, h2, h3, h4, h5, h6⟩
  have hx2 := h2 (by omega)
  have HX3 := Lib.hid (HX2.out.drew ⟨h4, h5⟩)
  clear h2 h3 h4 h5 h6 HX2
  go_wp2_with fail
  refine (src_n (w.heap.size + 1) 4 w3 HX3.out.src (by omega)).mono ?_
  rintro e w4 ⟨y, rfl, hy1, h2, h3, h4, h5, h6⟩
  have hy2 := h2 (by omega)
  have HX4 := Lib.hid (HX3.out.drew ⟨h4, h5⟩)
  clear h2 h3 h4 h5 h6 HX3
  go_wp2_with fail
  refine (src_one (w.heap.size + 1) 8 w4 HX4.out.src (by omega)).mono ?_
  rintro e w5 ⟨⟨b, rfl⟩, hd5⟩
  have HX5 := Lib.hid (HX4.out.drew hd5)
  clear hd5 HX4
  cases b
  · go_wp2_with fail
    refine (src_n (w.heap.size + 1) 4 w5 HX5.out.src (by omega)).mono ?_
    rintro e w6 ⟨wd, rfl, hw1, h2, h3, h4, h5, h6⟩
    have hw2 := h2 (by omega)
    have HX6 := Lib.hid (HX5.out.drew ⟨h4, h5⟩)
    clear h2 h3 h4 h5 h6 HX5
    go_wp2_with fail
    refine (src_n (w.heap.size + 1) 4 w6 HX6.out.src (by omega)).mono ?_
    rintro e w7 ⟨ht, rfl, hh1, h2, h3, h4, h5, h6⟩
    have hh2 := h2 (by omega)
    have HX7 := Lib.hid (HX6.out.drew ⟨h4, h5⟩)
    clear h2 h3 h4 h5 h6 HX6
    obtain ⟨c0, c1, f0, f1⟩ := HX7.out.box
    have hx8 := HX7.out.tape
    have hz3 := HX7.out.siz
    go_wp2_with fail
    go_region_held3 (fun w' => w'.cell? ⟨o, 0, none⟩ = some (.int .i64 side) ∧ w'.cell? ⟨o, 1, none⟩ = some (.slice A2 l2.length c2))
      (first
        | go_keep
        | exact hk6
        | exact ⟨(World.cell?_setCell_other _ _ _ _ (by simp <;> omega)).trans ((World.cell?_setCell_other _ _ _ _ (by simp <;> omega)).trans hk6.1), (World.cell?_setCell_other _ _ _ _ (by simp <;> omega)).trans ((World.cell?_setCell_other _ _ _ _ (by simp <;> omega)).trans hk6.2)⟩)
      (first
        | (go_at_call 55; refine (src_tile (w.heap.size + 1) _ (by with_reducible exact hx8.src)).mono ?_; rintro e w8 ⟨t, rfl, htl, hd8⟩; have HX8 := Lib.hid (hx8.drew hd8); have hk6 := HX8.out.held; obtain ⟨p0, p1, q0, q1⟩ := HX8.out.res; have HT := Lib.hid htl; clear htl hd8))
    all_goals
      go_wp2
      refine bodyPost_ret (v := .tuple #[.agg #[.int .i64 side, .slice A2 l2.length c2], .int .i64 x, .int .i64 y, .int .i64 wd, .int .i64 ht, .int .i64 t]) (by simp [results, Try.results9, go_sem, p0, p1]) rfl ?_
      have htt := HT.out
      exact ⟨side, A2, c2, l2, x, y, wd, ht, t, rfl, HSM.out, by unfold In64b; omega, HX8.out.fin⟩
  · obtain ⟨c0, c1, f0, f1⟩ := HX5.out.box
    have hx6 := HX5.out.tape
    have hz3 := HX5.out.siz
    go_wp2_with fail
    go_region_held3 (fun w' => w'.cell? ⟨o, 0, none⟩ = some (.int .i64 side) ∧ w'.cell? ⟨o, 1, none⟩ = some (.slice A2 l2.length c2))
      (first
        | go_keep
        | exact hk6
        | exact ⟨(World.cell?_setCell_other _ _ _ _ (by simp <;> omega)).trans ((World.cell?_setCell_other _ _ _ _ (by simp <;> omega)).trans hk6.1), (World.cell?_setCell_other _ _ _ _ (by simp <;> omega)).trans ((World.cell?_setCell_other _ _ _ _ (by simp <;> omega)).trans hk6.2)⟩)
      (first
        | (go_at_call 55; refine (src_tile (w.heap.size + 1) _ (by with_reducible exact hx8.src)).mono ?_; rintro e w9 ⟨t, rfl, htl, hd9⟩; have HX9 := Lib.hid (hx8.drew hd9); have hk6 := HX9.out.held; obtain ⟨p0, p1, q0, q1⟩ := HX9.out.res; have HT := Lib.hid htl; clear htl hd9)
        | (go_at_call 54; refine (src_edge (w.heap.size + 1) _ (by with_reducible exact hx7.src)).mono ?_; rintro e w8 ⟨r8, rfl, hr8, hd8⟩; have hx8 := hx7.drew hd8; have hk6 := hx8.held; have HR8 := Lib.hid hr8; clear hr8 hd8)
        | (go_at_call 54; refine (src_edge (w.heap.size + 1) _ (by with_reducible exact hx6.src)).mono ?_; rintro e w7 ⟨r7, rfl, hr7, hd7⟩; have hx7 := hx6.drew hd7; have hk6 := hx7.held; have HR7 := Lib.hid hr7; clear hr7 hd7))
    all_goals
      go_wp2
      refine bodyPost_ret (v := .tuple #[.agg #[.int .i64 side, .slice A2 l2.length c2], .int .i64 r7, .int .i64 y, .int .i64 r8, .int .i64 1, .int .i64 t]) (by simp [results, Try.results9, go_sem, p0, p1]) rfl ?_
      have htt := HT.out
      exact ⟨side, A2, c2, l2, r7, y, r8, 1, t, rfl, HSM.out, ⟨HR7.out, by unfold In64b; omega, HR8.out, by unfold In64b; omega, by unfold In64b; omega⟩, HX9.out.fin⟩
end Go.Proofs.Ytcadjfnfjakbeaa
