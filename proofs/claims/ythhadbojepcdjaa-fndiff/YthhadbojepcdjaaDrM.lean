/- What the laws on maps draw: a map a little later, walked. -/
import Derived.Test.YthhadbojepcdjaaDrL
namespace Go.Proofs.Ythhadbojepcdjaa
open Go.RowKit

section
variable {w wr wr' : World} {g base o c : Nat} {side a b : Int} {A : Option Addr} {l : List Int} {v : Value}
theorem LZ.tape (h : LZ w g base side A c l o a v b wr) : LZ w g base side A c l o a v b wr.drew := h.below (Below.refl _ _).drew
theorem LX.held (h : LX w g base side A c l wr) : wr.cell? ⟨w.heap.size, 0, none⟩ = some (.int .i64 side) ∧ wr.cell? ⟨w.heap.size, 1, none⟩ = some (.slice A l.length c) := ⟨h.inn.c0, h.inn.c1⟩
theorem LX.src (h : LX w g base side A c l wr) : SrcB wr g := h.drw.1
theorem LX.ri (h : LX w g base side A c l wr) : RI wr wr.heap.size A l := h.own.ri
theorem LX.lower {v1 : Value} {l1 : List Int} (h : LX w g base side A c l wr) (ho : OwnI 2 .i64 wr' wr.heap.size v1 l1) : OwnI 2 .i64 wr' base v1 l1 := OwnI.lower (by have := h.siz; omega) ho
theorem LZ.apart {v1 : Value} {l1 : List Int} (h : LZ w g base side A c l o a v b wr) (ho : OwnI 2 .i64 wr' wr.heap.size v1 l1) : ∀ k, v1.ownBlock = some k → k ≠ o := fun k hk => by
  have h1 := (World.ownsRow.lt ho k hk).1
  have h2 := h.far.2
  omega
/-- Behind the draw: the map that was filled stands in its box. -/
structure LF (w : World) (g base : Nat) (side : Int) (A : Option Addr) (c : Nat) (l : List Int) (o : Nat) (a : Int) (A1 : Option Addr) (c1 : Nat) (l1 : List Int) (b : Int) (wr : World) : Prop where
  lz : LZ w g base side A c l o a (.slice A1 l1.length c1) b wr
  own : OwnI 2 .i64 wr base (.slice A1 l1.length c1) l1
  apt : ∀ k, (Value.slice A1 l1.length c1).ownBlock = some k → k ≠ w.heap.size ∧ k ≠ w.heap.size + 1
theorem LX.news {v1 : Value} {l1 : List Int} (h : LX w g base side A c l wr) (ho : OwnI 2 .i64 wr' wr.heap.size v1 l1) : ∀ k, v1.ownBlock = some k → k ≠ w.heap.size ∧ k ≠ w.heap.size + 1 := fun k hk => by
  have h1 := (World.ownsRow.lt ho k hk).1
  have h2 := h.siz
  omega
theorem LF.after {A1 : Option Addr} {c1 : Nat} {l1 : List Int} (h : LX w g base side A c l wr) (ho : OwnI 2 .i64 wr base (.slice A1 l1.length c1) l1) (hp : ∀ k, (Value.slice A1 l1.length c1).ownBlock = some k → k ≠ w.heap.size ∧ k ≠ w.heap.size + 1) (a b : Int) : LF w g base side A c l wr.heap.size a A1 c1 l1 b (wr.alloc (.cells #[.int .i64 a, .slice A1 l1.length c1, .int .i64 b] 37)) :=
  ⟨h.alloc a b _, ho.alloc _, hp⟩
theorem LF.ahead {A1 : Option Addr} {c1 : Nat} {l1 : List Int} {v : Value} {a0 b0 : Int} (h : LZ w g base side A c l o a0 v b0 wr) (ho : OwnI 2 .i64 wr base (.slice A1 l1.length c1) l1) (hn : ∀ k, (Value.slice A1 l1.length c1).ownBlock = some k → k ≠ o) (hp : ∀ k, (Value.slice A1 l1.length c1).ownBlock = some k → k ≠ w.heap.size ∧ k ≠ w.heap.size + 1) (a b : Int) : LF w g base side A c l o a A1 c1 l1 b (((wr.setCell ⟨o, 0, none⟩ (.int .i64 a)).setCell ⟨o, 1, none⟩ (.slice A1 l1.length c1)).setCell ⟨o, 2, none⟩ (.int .i64 b)) :=
  ⟨h.put a b _, ((ho.other hn _).other hn _).other hn _, hp⟩
theorem LF.take {A1 : Option Addr} {c1 : Nat} {l1 : List Int} (h : LF w g base side A c l o side A1 c1 l1 b wr) : LX w g base side A1 c1 l1 ((wr.setCell ⟨w.heap.size, 0, none⟩ (.int .i64 side)).setCell ⟨w.heap.size, 1, none⟩ (.slice A1 l1.length c1)) := by
  obtain ⟨h1, h2, h3⟩ := h.lz.lx.siz
  refine ⟨(h.lz.lx.inn.set0 side).set1 _, (h.lz.lx.res.far (by show w.heap.size ≠ _; omega) _).far (by show w.heap.size ≠ _; omega) _, (h.own.other (fun k hk => (h.apt k hk).1) _).other (fun k hk => (h.apt k hk).1) _, ?_, ⟨h1, h2, by simpa [World.setCell] using h3⟩, h.apt⟩
  have hb : Below w.heap.size wr ((wr.setCell ⟨w.heap.size, 0, none⟩ (.int .i64 side)).setCell ⟨w.heap.size, 1, none⟩ (.slice A1 l1.length c1)) := ((Below.refl _ _).setCell (by simp) _).setCell (by simp) _
  exact h.lz.lx.drw.more (by omega) hb
end

theorem n_le {most r : Int} (h2 : 1 < most → r < most) (h3 : most ≤ 1 → r = 0) (hm : most ≤ 8) : r ≤ 8 := by
  by_cases h : 1 < most
  · have := h2 h
    omega
  · have := h3 (by omega)
    omega
def LaterPost (w : World) (g base : Nat) (side : Int) (e : Ending) (w' : World) : Prop := ∃ (A : Option Addr) (c : Nat) (l : List Int), e = .returned (.agg #[.int .i64 side, .slice A l.length c]) ∧ gridRight side l = true ∧ OwnI 2 .i64 w' base (.slice A l.length c) l ∧ Drew w g w'

set_option maxRecDepth 100000 in
set_option maxHeartbeats 1000000 in
theorem later_any (g base : Nat) (side : Int) (A : Option Addr) (c : Nat) (l : List Int) (w : World) (hs : SrcB w g) (hr : gridRight side l = true) (ho : OwnI 2 .i64 w base (.slice A l.length c) l) (hg : g < base) (hbs : base ≤ w.heap.size) :
    Calls Try.prog 39 #[.pointer (some ⟨g, 0, none⟩), .agg #[.int .i64 side, .slice A l.length c]] w (LaterPost w g base side) := by
  have hb0 : Below w.heap.size w ((w.alloc (.cells #[.int .i64 side, .slice A l.length c] 25)).alloc (.cells #[.int .i64 0, .slice none 0 0] 25)) := ((Below.refl _ _).alloc (Nat.le_refl _) _).alloc (by simp) _
  have HX0 : Hid (LX w g base side A c l ((w.alloc (.cells #[.int .i64 side, .slice A l.length c] 25)).alloc (.cells #[.int .i64 0, .slice none 0 0] 25))) := by
    refine ⟨(GB.made w side (.slice A l.length c) 25).below ((Below.refl _ _).alloc (B := w.heap.size + 1) (by simp) _) (by omega), ?_, (ho.alloc _).alloc _, ((Drew.refl hs).alloc _).alloc _, ⟨hg, hbs, by simp⟩, fun k hk => by have := (World.ownsRow.lt ho k hk).2; omega⟩
    have := GB.made (w.alloc (.cells #[.int .i64 side, .slice A l.length c] 25)) 0 (.slice none 0 0) 25
    rw [alloc_size] at this
    exact this
  have HR0 := Lib.hid hr
  have hsb := side_bound (right_parts hr).1
  clear hs hr ho hb0
  go_enter Try.func39, Try.ntmps39
  go_wp2_with fail
  refine (src_n g 4 _ HX0.out.src (by omega)).mono ?_
  rintro e w1 ⟨k0, rfl, h1, h2, h3, h4, h5, h6⟩
  have h2' := h2 (by omega)
  obtain ⟨k0, rfl⟩ := Int.eq_ofNat_of_zero_le h1
  have HX1 := Lib.hid (HX0.out.drew ⟨h4, h5⟩)
  clear h2 h3 h4 h5 h6
  go_wp2
  go_loopw [5] (fun i wr => ∃ (k : Nat) (B : Option Addr) (d : Nat) (m : List Int), i = .int .i64 k ∧ k ≤ 3 ∧ Hid (gridRight side m = true) ∧ LX w g base side B d m wr) (fun i _ => (intOf i).toNat)
  case atStart => exact ⟨k0, A, c, l, rfl, by omega, HR0, HX1.out⟩
  case round =>
    clear HR0 HX1 HX0
    obtain ⟨k, B, d, m, rfl, hk, HR, hx⟩ := hrel
    have HX := Lib.hid hx
    have h64 := right_len HR.out
    by_cases hpos : 0 < k
    · obtain ⟨p0, p1, q0, q1⟩ := hx.inn
      clear hx
      go_wp2_with fail
      refine (src_n g side _ HX.out.src (by omega)).mono ?_
      rintro e w2 ⟨x, rfl, hx1, hx2, hx3, h4, h5, h6⟩
      have hx4 : x < side := by
        by_cases h : 1 < side
        · exact hx2 h
        · have := hx3 (by omega)
          omega
      have HX2 := Lib.hid (HX.out.drew ⟨h4, h5⟩)
      clear hx2 hx3 h4 h5 h6 p0 p1 q0 q1
      obtain ⟨p0, p1, q0, q1⟩ := HX2.out.inn
      go_wp2_with fail
      refine (src_n g side _ HX2.out.src (by omega)).mono ?_
      rintro e w3 ⟨y, rfl, hy1, hy2, hy3, h4, h5, h6⟩
      have hy4 : y < side := by
        by_cases h : 1 < side
        · exact hy2 h
        · have := hy3 (by omega)
          omega
      have HX3 := Lib.hid (HX2.out.drew ⟨h4, h5⟩)
      clear hy2 hy3 h4 h5 h6 p0 p1 q0 q1
      obtain ⟨p0, p1, q0, q1⟩ := HX3.out.inn
      have e1 : IntKind.i64.wrap (side - x) = side - x := IntWalk.i64_in _ (by omega)
      have e2 : IntKind.i64.wrap (side - y) = side - y := IntWalk.i64_in _ (by omega)
      have hxt : Hid (LX w g base side B d m w3.drew) := HX3.out.tape
      have hx3 := hxt.out
      clear hxt
      go_wp2_with fail
      go_region_held3 (fun w' => w'.cell? ⟨w.heap.size, 0, none⟩ = some (.int .i64 side) ∧ w'.cell? ⟨w.heap.size, 1, none⟩ = some (.slice B m.length d))
        (first
          | go_keep
          | exact hkeep
          | exact ⟨(World.cell?_setCell_other _ _ _ _ (by simp <;> omega)).trans ((World.cell?_setCell_other _ _ _ _ (by simp <;> omega)).trans ((World.cell?_setCell_other _ _ _ _ (by simp <;> omega)).trans hkeep.1)), (World.cell?_setCell_other _ _ _ _ (by simp <;> omega)).trans ((World.cell?_setCell_other _ _ _ _ (by simp <;> omega)).trans ((World.cell?_setCell_other _ _ _ _ (by simp <;> omega)).trans hkeep.2))⟩)
        (first
          | (go_at_call 41; have hthere := hr4; refine (src_n g _ _ (LX.src (by with_reducible exact hx4)) (by omega)).mono ?_; rintro e w5 ⟨r2, rfl, hr1', hr2', hr3', h4', h5', h6'⟩; clear h6'; have hr4' := n_le hr2' hr3' (by omega); have hrw' : IntKind.i64.wrap (1 + r2) = 1 + r2 := IntWalk.i64_in _ (by omega); have hx5 := LX.drew (h := hx4) (hd := ⟨h4', h5'⟩); have hkeep := hx5.held)
          | (go_at_call 41; have hthere := hr4; refine (src_n g _ _ (LX.src (by with_reducible exact hz4.lx)) (by omega)).mono ?_; rintro e w5 ⟨r2, rfl, hr1', hr2', hr3', h4', h5', h6'⟩; clear h6'; have hr4' := n_le hr2' hr3' (by omega); have hrw' : IntKind.i64.wrap (1 + r2) = 1 + r2 := IntWalk.i64_in _ (by omega); have hz5 := LZ.drew (h := hz4) (hd := ⟨h4', h5'⟩); have hkeep := hz5.lx.held)
          | (go_at_call 41; have hthere := hr4; refine (src_n g _ _ (LX.src (by with_reducible exact (LX.alloc hx4 0 0 (.slice none 0 0)).lx)) (by omega)).mono ?_; rintro e w5 ⟨r2, rfl, hr1', hr2', hr3', h4', h5', h6'⟩; clear h6'; have hr4' := n_le hr2' hr3' (by omega); have hrw' : IntKind.i64.wrap (1 + r2) = 1 + r2 := IntWalk.i64_in _ (by omega); have hz5 := LZ.drew (o := w4.heap.size) (h := (LX.alloc hx4 0 0 (.slice none 0 0))) (hd := ⟨h4', h5'⟩); have hkeep := hz5.lx.held)
          | (go_at_call 41; refine (src_n g _ _ (LX.src (by with_reducible exact hx3)) (by omega)).mono ?_; rintro e w4 ⟨r, rfl, hr1, hr2, hr3, h4, h5, h6⟩; clear h6; have hr4 := n_le hr2 hr3 (by omega); have hrw : IntKind.i64.wrap (1 + r) = 1 + r := IntWalk.i64_in _ (by omega); have hx4 := LX.drew (h := hx3) (hd := ⟨h4, h5⟩); have hkeep := hx4.held)
          | (go_at_call 41; refine (src_n g _ _ (LX.src (by with_reducible exact (LX.alloc HX3.out 0 0 (.slice none 0 0)).tape.lx)) (by omega)).mono ?_; rintro e w4 ⟨r, rfl, hr1, hr2, hr3, h4, h5, h6⟩; clear h6; have hr4 := n_le hr2 hr3 (by omega); have hrw : IntKind.i64.wrap (1 + r) = 1 + r := IntWalk.i64_in _ (by omega); have hz4 := LZ.drew (o := w3.heap.size) (h := (LX.alloc HX3.out 0 0 (.slice none 0 0)).tape) (hd := ⟨h4, h5⟩); have hkeep := hz4.lx.held)
          | (go_at_call 42; refine (src_tile g _ (LX.src (by with_reducible exact hx5))).mono ?_; rintro e w6 ⟨t, rfl, ht, hd6⟩; have hx6 := LX.drew (h := hx5) (hd := hd6); have hkeep := hx6.held)
          | (go_at_call 42; refine (src_tile g _ (LX.src (by with_reducible exact hz5.lx))).mono ?_; rintro e w6 ⟨t, rfl, ht, hd6⟩; have hz6 := LZ.drew (h := hz5) (hd := hd6); have hkeep := hz6.lx.held)
          | (go_at_call 42; refine (src_tile g _ (LX.src (by with_reducible exact (LX.alloc hx5 0 0 (.slice none 0 0)).lx))).mono ?_; rintro e w6 ⟨t, rfl, ht, hd6⟩; have hz6 := LZ.drew (o := w5.heap.size) (h := (LX.alloc hx5 0 0 (.slice none 0 0))) (hd := hd6); have hkeep := hz6.lx.held)
          | (go_at_call 47; refine (mFill_any side x y _ _ _ B d m _ (LX.ri (by with_reducible exact hx6)) (by omega) (by omega) (by omega) (by omega) (by omega)).mono ?_; rintro e w7 ⟨A7, c7, rfl, ho7, hb7⟩; have HX7 := Lib.hid (LX.below (h := hx6) hb7); have HO7 := Lib.hid (LX.lower (h := hx6) ho7); have HA7 := Lib.hid (LX.news (h := hx6) ho7); have hkeep := HX7.out.held)
          | (go_at_call 47; refine (mFill_any side x y _ _ _ B d m _ (LX.ri (by with_reducible exact hz6.lx)) (by omega) (by omega) (by omega) (by omega) (by omega)).mono ?_; rintro e w7 ⟨A7, c7, rfl, ho7, hb7⟩; have HZ7 := Lib.hid (LZ.below (h := hz6) hb7); have HL7 := Lib.hid (LZ.apart (h := hz6) ho7); have HO7 := Lib.hid (LX.lower (h := hz6.lx) ho7); have HA7 := Lib.hid (LX.news (h := hz6.lx) ho7); have hkeep := HZ7.out.lx.held; obtain ⟨_, z0, z1, z2, y0, y1, y2, zf, _⟩ := HZ7.out)
          | (go_at_call 47; refine (mFill_any side x y _ _ _ B d m _ (LX.ri (by with_reducible exact (LX.alloc hx6 0 0 (.slice none 0 0)).lx)) (by omega) (by omega) (by omega) (by omega) (by omega)).mono ?_; rintro e w7 ⟨A7, c7, rfl, ho7, hb7⟩; have HZ7 := Lib.hid (LZ.below (o := w6.heap.size) (h := (LX.alloc hx6 0 0 (.slice none 0 0))) hb7); have HL7 := Lib.hid (LZ.apart (o := w6.heap.size) (h := (LX.alloc hx6 0 0 (.slice none 0 0))) ho7); have HO7 := Lib.hid (LX.lower (h := (LX.alloc hx6 0 0 (.slice none 0 0)).lx) ho7); have HA7 := Lib.hid (LX.news (h := (LX.alloc hx6 0 0 (.slice none 0 0)).lx) ho7); have hkeep := HZ7.out.lx.held; obtain ⟨_, z0, z1, z2, y0, y1, y2, zf, _⟩ := HZ7.out))
      -- behind the region
      all_goals first
        | (have HP := Lib.hid (LF.after HX7.out HO7.out HA7.out (fillSide side m x y (1 + r) (1 + r2) t) (fillCode side m x y (1 + r) (1 + r2) t))
           generalize w7.alloc (.cells #[.int .i64 (fillSide side m x y (1 + r) (1 + r2) t), .slice A7 (fillTiles side m x y (1 + r) (1 + r2) t).length c7, .int .i64 (fillCode side m x y (1 + r) (1 + r2) t)] 37) = W at HP ⊢
           generalize w7.heap.size = o at HP ⊢)
        | (have HP := Lib.hid (LF.ahead (o := w3.heap.size) HZ7.out HO7.out HL7.out HA7.out (fillSide side m x y (1 + r) (1 + r2) t) (fillCode side m x y (1 + r) (1 + r2) t))
           generalize ((w7.setCell ⟨w3.heap.size, 0, none⟩ (.int .i64 (fillSide side m x y (1 + r) (1 + r2) t))).setCell ⟨w3.heap.size, 1, none⟩ (.slice A7 (fillTiles side m x y (1 + r) (1 + r2) t).length c7)).setCell ⟨w3.heap.size, 2, none⟩ (.int .i64 (fillCode side m x y (1 + r) (1 + r2) t)) = W at HP ⊢
           clear HZ7 HL7 z0 z1 z2 y0 y1 y2 zf
           generalize w3.heap.size = o at HP ⊢)
        | (have HP := Lib.hid (LF.ahead (o := w4.heap.size) HZ7.out HO7.out HL7.out HA7.out (fillSide side m x y (1 + r) (1 + r2) t) (fillCode side m x y (1 + r) (1 + r2) t))
           generalize ((w7.setCell ⟨w4.heap.size, 0, none⟩ (.int .i64 (fillSide side m x y (1 + r) (1 + r2) t))).setCell ⟨w4.heap.size, 1, none⟩ (.slice A7 (fillTiles side m x y (1 + r) (1 + r2) t).length c7)).setCell ⟨w4.heap.size, 2, none⟩ (.int .i64 (fillCode side m x y (1 + r) (1 + r2) t)) = W at HP ⊢
           clear HZ7 HL7 z0 z1 z2 y0 y1 y2 zf
           generalize w4.heap.size = o at HP ⊢)
        | (have HP := Lib.hid (LF.ahead (o := w5.heap.size) HZ7.out HO7.out HL7.out HA7.out (fillSide side m x y (1 + r) (1 + r2) t) (fillCode side m x y (1 + r) (1 + r2) t))
           generalize ((w7.setCell ⟨w5.heap.size, 0, none⟩ (.int .i64 (fillSide side m x y (1 + r) (1 + r2) t))).setCell ⟨w5.heap.size, 1, none⟩ (.slice A7 (fillTiles side m x y (1 + r) (1 + r2) t).length c7)).setCell ⟨w5.heap.size, 2, none⟩ (.int .i64 (fillCode side m x y (1 + r) (1 + r2) t)) = W at HP ⊢
           clear HZ7 HL7 z0 z1 z2 y0 y1 y2 zf
           generalize w5.heap.size = o at HP ⊢)
        | (have HP := Lib.hid (LF.ahead (o := w6.heap.size) HZ7.out HO7.out HL7.out HA7.out (fillSide side m x y (1 + r) (1 + r2) t) (fillCode side m x y (1 + r) (1 + r2) t))
           generalize ((w7.setCell ⟨w6.heap.size, 0, none⟩ (.int .i64 (fillSide side m x y (1 + r) (1 + r2) t))).setCell ⟨w6.heap.size, 1, none⟩ (.slice A7 (fillTiles side m x y (1 + r) (1 + r2) t).length c7)).setCell ⟨w6.heap.size, 2, none⟩ (.int .i64 (fillCode side m x y (1 + r) (1 + r2) t)) = W at HP ⊢
           clear HZ7 HL7 z0 z1 z2 y0 y1 y2 zf
           generalize w6.heap.size = o at HP ⊢)
      all_goals
        clear p0 p1 q0 q1 HO7 HA7 HX HX2 HX3 hkeep e1 e2
        obtain ⟨⟨_, z0, z1, z2, y0, y1, y2, zf, _⟩, _, _⟩ := HP.out
        obtain ⟨p0, p1, q0, q1⟩ := HP.out.lz.lx.inn
        have ekk : (k : Int) - 1 = ((k - 1 : Nat) : Int) := by omega
        have hkw : IntKind.i64.wrap ((k : Int) - 1) = ((k - 1 : Nat) : Int) := by rw [ekk]; exact IntWalk.i64_in _ (by omega)
        cases hc : (fillOk side m t && fillIn side x y (1 + r) (1 + r2))
        · have hq : (fillCode side m x y (1 + r) (1 + r2) t == 0) = false := by
            rw [Bool.and_eq_false_iff] at hc
            unfold fillCode
            rcases hc with hc | hc
            · rw [hc]; rfl
            · rw [hc]; split <;> rfl
          clear hc
          go_wp2
          go_roundw
          case rel => exact ⟨k - 1, B, d, m, rfl, by omega, HR, HP.out.lz.lx⟩
          case measure => simp [intOf]; omega
        · rw [Bool.and_eq_true] at hc
          obtain ⟨hc1, hc2⟩ := hc
          have eC : fillCode side m x y (1 + r) (1 + r2) t = 0 := by unfold fillCode; rw [hc1, hc2]; rfl
          have eS : fillSide side m x y (1 + r) (1 + r2) t = side := by unfold fillSide; rw [hc1, hc2]; rfl
          have eL : fillTiles side m x y (1 + r) (1 + r2) t = fillL side m x y (1 + r) (1 + r2) t := by unfold fillTiles; rw [hc1, hc2]; rfl
          have HRR : Hid (gridRight side (fillTiles side m x y (1 + r) (1 + r2) t) = true) := by
            show _ = _
            rw [eL]
            rw [fillOk, Bool.and_eq_true] at hc1
            exact fill_right _ hc1.1 hc1.2
          rw [eC] at z2
          rw [eS] at z0
          have hp := HP.out
          rw [eS] at hp
          have HN := Lib.hid hp.take
          clear hp hc1 hc2 eL eC
          go_wp2
          go_roundw
          case rel => exact ⟨k - 1, A7, c7, _, rfl, by omega, HRR, HN.out⟩
          case measure => simp [intOf]; omega
    · have ek : k = 0 := by omega
      subst ek
      obtain ⟨p0, p1, q0, q1⟩ := hx.inn
      obtain ⟨r0, r1, s0, s1⟩ := hx.res
      clear hx
      go_wp2
      refine bodyPost_ret (v := .agg #[.int .i64 side, .slice B m.length d]) (by simp [results, Try.results39, go_sem, r0, r1]) rfl ?_
      have hn : ∀ k, (Value.slice B m.length d).ownBlock = some k → k ≠ w.heap.size + 1 := fun k hk => (HX.out.apt k hk).2
      have hb : Below w.heap.size wr ((wr.setCell ⟨w.heap.size + 1, 0, none⟩ (.int .i64 side)).setCell ⟨w.heap.size + 1, 1, none⟩ (.slice B m.length d)) := ((Below.refl _ _).setCell (by simp) _).setCell (by simp) _
      exact ⟨B, d, m, rfl, HR.out, (HX.out.own.other hn _).other hn _, HX.out.drw.more (by omega) hb⟩
end Go.Proofs.Ythhadbojepcdjaa
