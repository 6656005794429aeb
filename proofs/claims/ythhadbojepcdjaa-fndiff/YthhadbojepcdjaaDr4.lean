/- What the laws of chapter 5 draw: a map and two later ones. -/
import Derived.Test.YthhadbojepcdjaaDrG
import Derived.Test.YthhadbojepcdjaaGWalkS
import Derived.Deep.RegionHeld3
namespace Go.Proofs.Ythhadbojepcdjaa
open Go.RowKit
set_option linter.unusedVariables false
set_option linter.unusedSimpArgs false

def Small3 (side : Int) (l : List Int) : Prop := 0 ≤ side ∧ side ≤ 10 ∧ l.length ≤ 65 ∧ ∀ n ∈ l, -1 ≤ n ∧ n ≤ 10
/-- Three maps, rows of their own above base. -/
def ThreePost (w : World) (g base : Nat) (e : Ending) (w' : World) : Prop :=
  ∃ (so : Int) (Ao : Option Addr) (co : Nat) (lo : List Int) (sa : Int) (A : Option Addr) (c : Nat) (la : List Int) (sb : Int) (A' : Option Addr) (c' : Nat) (lb : List Int),
    e = .returned (.tuple #[.agg #[.int .i64 so, .slice Ao lo.length co], .agg #[.int .i64 sa, .slice A la.length c], .agg #[.int .i64 sb, .slice A' lb.length c']]) ∧ Small3 so lo ∧ Small3 sa la ∧ Small3 sb lb ∧
    OwnI 2 .i64 w' base (.slice Ao lo.length co) lo ∧ OwnI 2 .i64 w' base (.slice A la.length c) la ∧ OwnI 2 .i64 w' base (.slice A' lb.length c') lb ∧ Drew w g w'
/-- While they are drawn: the three boxes to hand back, still empty. -/
structure TX (w : World) (g : Nat) (wr : World) : Prop where
  r0 : GB wr w.heap.size 0 (.slice none 0 0)
  r1 : GB wr (w.heap.size + 1) 0 (.slice none 0 0)
  r2 : GB wr (w.heap.size + 1 + 1) 0 (.slice none 0 0)
  drw : Drew w g wr
  siz : w.heap.size + 1 + 1 < wr.heap.size
  hg : g < w.heap.size
section
variable {w wr wr' : World} {g : Nat}
theorem TX.drew (h : TX w g wr) (hd : Drew wr g wr') : TX w g wr' := by
  have h1 := h.siz
  have h2 := h.hg
  exact ⟨h.r0.drewn hd (by omega) (by omega), h.r1.drewn hd (by omega) (by omega), h.r2.drewn hd (by omega) h1, h.drw.trans hd, Nat.lt_of_lt_of_le h1 hd.2.size, h2⟩
theorem TX.below (h : TX w g wr) (hb : Below wr.heap.size wr wr') : TX w g wr' := by
  have h1 := h.siz
  have h2 := h.hg
  exact h.drew ⟨h.drw.1.keep fun k hk => hb.block k (by omega), hb.os, hb.tape, hb.output, hb.size, fun k hk _ => hb.block k hk⟩
theorem TX.tape (h : TX w g wr) : TX w g wr.drew := h.below (Below.refl _ _).drew
theorem TX.made (hs : SrcB w g) : TX w g (((w.alloc (.cells #[.int .i64 0, .slice none 0 0] 25)).alloc (.cells #[.int .i64 0, .slice none 0 0] 25)).alloc (.cells #[.int .i64 0, .slice none 0 0] 25)) :=
  ⟨⟨by simp [go_sem], by simp [go_sem], by simp [go_sem], by simp [go_sem]⟩, ⟨by simp [go_sem], by simp [go_sem], by simp [go_sem], by simp [go_sem]⟩, ⟨by simp [go_sem], by simp [go_sem], by simp [go_sem], by simp [go_sem]⟩, (((Drew.refl hs).alloc _).alloc _).alloc _, by simp, hs.lt⟩
/-- The three are handed back. -/
def put3 (w wr : World) (so sa sb : Int) (vo va vb : Value) : World := (((((wr.setCell ⟨w.heap.size, 0, none⟩ (.int .i64 so)).setCell ⟨w.heap.size, 1, none⟩ vo).setCell ⟨w.heap.size + 1, 0, none⟩ (.int .i64 sa)).setCell ⟨w.heap.size + 1, 1, none⟩ va).setCell ⟨w.heap.size + 1 + 1, 0, none⟩ (.int .i64 sb)).setCell ⟨w.heap.size + 1 + 1, 1, none⟩ vb
theorem put3_own {e : TypeId} {k : IntKind} {base : Nat} {v : Value} {l : List Int} (h : OwnI e k wr base v l) (hb : w.heap.size + 1 + 1 < base) (so sa sb : Int) (vo va vb : Value) : OwnI e k (put3 w wr so sa sb vo va vb) base v l :=
  OwnI.set_below hb _ (OwnI.set_below hb _ (OwnI.set_below (by show w.heap.size + 1 < _; omega) _ (OwnI.set_below (by show w.heap.size + 1 < _; omega) _ (OwnI.set_below (by show w.heap.size < _; omega) _ (OwnI.set_below (by show w.heap.size < _; omega) _ h)))))
theorem put3_drew (h : TX w g wr) (so sa sb : Int) (vo va vb : Value) : Drew w g (put3 w wr so sa sb vo va vb) := by
  have hg := h.hg
  have hb : Below w.heap.size wr (put3 w wr so sa sb vo va vb) := ((((((Below.refl w.heap.size wr).setCell (by show _ ≤ w.heap.size; omega) _).setCell (by show _ ≤ w.heap.size; omega) _).setCell (by show _ ≤ w.heap.size + 1; omega) _).setCell (by show _ ≤ w.heap.size + 1; omega) _).setCell (by show _ ≤ w.heap.size + 1 + 1; omega) _).setCell (by show _ ≤ w.heap.size + 1 + 1; omega) _
  exact h.drw.more hg hb
end
theorem small4 {t : Int} (h : t = 0 ∨ t = 1) : Small3 2 [t, t, t, t] := by
  rcases h with rfl | rfl <;> exact ⟨by decide, by decide, by decide, by decide⟩
theorem new2_any (t : Int) (w : World) : Calls Try.prog 38 #[.int .i64 2, .int .i64 t] w fun e w' => ∃ A c, e = .returned (.agg #[.int .i64 2, .slice A 4 c]) ∧ OwnI 2 .i64 w' w.heap.size (.slice A 4 c) [t, t, t, t] ∧ Below w.heap.size w w' := mNew_any 2 t w rfl
theorem small_right {side : Int} {l : List Int} (h : gridRight side l = true) : Small3 side l := right_small h

set_option maxRecDepth 100000 in
set_option maxHeartbeats 2000000 in
theorem three_any (g : Nat) (w : World) (hs : SrcB w g) :
    Calls Try.prog 22 #[.pointer (some ⟨g, 0, none⟩)] w (ThreePost w g (w.heap.size + 1 + 1 + 1)) := by
  have hlt := hs.lt
  have HT0 := Lib.hid (TX.made hs)
  have HG := Lib.hid (grid_any g _ HT0.out.drw.1)
  clear hs
  go_enter Try.func22, Try.ntmps22
  go_wp2_with fail
  refine HG.out.mono ?_
  rintro e w1 ⟨side, A1, c1, l1, rfl, hsm, ho1, hd1⟩
  simp only [alloc_size] at ho1
  have HT1 := Lib.hid (HT0.out.drew hd1)
  have HTA := Lib.hid (HT1.out.below ((Below.refl _ _).alloc (Nat.le_refl _) (.cells #[.int .i64 side, .slice A1 l1.length c1] 25)))
  have HX := Lib.hid (GB.made w1 side (.slice A1 l1.length c1) 25)
  have HO := Lib.hid (ho1.alloc (.cells #[.int .i64 side, .slice A1 l1.length c1] 25))
  have HSM : Hid (Small3 side l1) := hsm
  have hl65 := hsm.2.2.1
  have hq : w.heap.size + 1 + 1 < w1.heap.size := HT1.out.siz
  have hRt := fun w h => mRight_any side A1 c1 l1 w h (by omega)
  clear hsm ho1 hd1 HG HT0
  obtain ⟨x0, x1, _, _⟩ := HX.out
  go_wp2_with fail
  generalize w1.alloc (.cells #[.int .i64 side, .slice A1 l1.length c1] 25) = W at *
  cases hr : gridRight side l1
  · rw [hr] at hRt
    refine (hRt _ HO.out.ri).mono ?_
    rintro e w2 ⟨rfl, hb2⟩
    have HT2 := Lib.hid (HTA.out.below hb2)
    have hqW : w1.heap.size < W.heap.size := World.block_lt_of_cell? W ⟨w1.heap.size, 0, none⟩ x0
    have HX2 := Lib.hid (HX.out.below hb2 hqW)
    have HO2 := Lib.hid (HO.out.keep hb2)
    have hq2 : w1.heap.size < w2.heap.size := Nat.lt_of_lt_of_le hqW hb2.size
    clear hb2 x0 x1 HX HO HTA
    obtain ⟨x0, x1, _, _⟩ := HX2.out
    go_wp2_with fail
    have hn0 : ¬ w.heap.size = w1.heap.size := by omega
    have hn1 : ¬ w.heap.size + 1 = w1.heap.size := by omega
    have hn2 : ¬ w.heap.size + 1 + 1 = w1.heap.size := by omega
    have HTd := Lib.hid HT2.out.tape
    have hN1 := new2_any 0 w2.drew
    go_region_held3 (fun w' => w'.cell? ⟨w1.heap.size, 0, none⟩ = some (.int .i64 side) ∧ w'.cell? ⟨w1.heap.size, 1, none⟩ = some (.slice A1 l1.length c1))
      (first | (with_reducible exact hk4) | (with_reducible exact hk3) | (refine ⟨?_, ?_⟩ <;> simp only [World.cell?_setCell_far, ne_eq, hn0, hn1, hn2, not_false_eq_true, hk4.1, hk4.2]) | exact ⟨x0, x1⟩)
      (first
        | (go_at_call 38; refine (new2_any 1 w3).mono ?_; rintro e w4 ⟨A4, c4, rfl, ho4, hb4⟩; have HT4 := Lib.hid (HT3.out.below hb4); have HO43 := Lib.hid (HO33.out.keep hb4); have HO42 := Lib.hid (HO32.out.keep hb4); have HO4 : Hid (OwnI 2 .i64 w4 (w.heap.size + 1 + 1 + 1) (.slice A4 4 c4) [1, 1, 1, 1]) := OwnI.lower (Nat.succ_le_of_lt HT3.out.siz) ho4; have hk4 := And.intro (HX3.out.below hb4 hq3).c0 (HX3.out.below hb4 hq3).c1; obtain ⟨⟨p0, p1, p2, p3⟩, ⟨q0, q1, q2, q3⟩, ⟨s0, s1, s2, s3⟩, _, hz4, _⟩ := HT4.out; clear hb4 ho4)
        | (go_at_call 38; refine hN1.mono ?_; rintro e w3 ⟨A3, c3, rfl, ho3, hb3⟩; have HT3 := Lib.hid (HTd.out.below hb3); have HO33 : Hid (OwnI 2 .i64 w3 (w.heap.size + 1 + 1 + 1) (.slice A3 4 c3) [0, 0, 0, 0]) := OwnI.lower (Nat.succ_le_of_lt HTd.out.siz) ho3; have HO32 := Lib.hid (HO2.out.drew.keep hb3); have HX3 := Lib.hid (HX2.out.drew.below hb3 hq2); have hq3 : w1.heap.size < w3.heap.size := Nat.lt_of_lt_of_le hq2 hb3.size; have hk3 := And.intro HX3.out.c0 HX3.out.c1; clear hb3 ho3))
    all_goals
      clear hk3 hk4 x0 x1
      go_wp2
      refine bodyPost_ret (v := .tuple #[.agg #[.int .i64 side, .slice A1 l1.length c1], .agg #[.int .i64 2, .slice A3 4 c3], .agg #[.int .i64 2, .slice A4 4 c4]]) (by simp [results, Try.results22, go_sem, p0, p1, q0, q1, s0, s1]) rfl ?_
      exact ⟨side, A1, c1, l1, 2, A3, c3, [0, 0, 0, 0], 2, A4, c4, [1, 1, 1, 1], rfl, HSM.out, small4 (.inl rfl), small4 (.inr rfl), put3_own HO42.out (by omega) _ _ _ _ _ _, put3_own HO43.out (by omega) _ _ _ _ _ _, put3_own HO4.out (by omega) _ _ _ _ _ _, put3_drew HT4.out _ _ _ _ _ _⟩
  · rw [hr] at hRt
    refine (hRt _ HO.out.ri).mono ?_
    rintro e w2 ⟨rfl, hb2⟩
    have HT2 := Lib.hid (HTA.out.below hb2)
    have hqW : w1.heap.size < W.heap.size := World.block_lt_of_cell? W ⟨w1.heap.size, 0, none⟩ x0
    have HX2 := Lib.hid (HX.out.below hb2 hqW)
    have HO2 := Lib.hid (HO.out.keep hb2)
    have hq2 : w1.heap.size < w2.heap.size := Nat.lt_of_lt_of_le hqW hb2.size
    have HR := Lib.hid hr
    clear hb2 x0 x1 HX HO HTA hr
    obtain ⟨x0, x1, _, _⟩ := HX2.out
    go_wp2_with fail
    refine (later_any g (w.heap.size + 1 + 1 + 1) side A1 c1 l1 w2 HT2.out.drw.1 HR.out HO2.out (by omega) (by omega)).mono ?_
    rintro e w3 ⟨A3, c3, l3, rfl, hr3, ho3, hd3⟩
    have HT3 := Lib.hid (HT2.out.drew hd3)
    have HX3 := Lib.hid (HX2.out.drewn hd3 (by omega) hq2)
    have HO31 := Lib.hid (HO2.out.drewn hd3 (by omega))
    have hq3 : w1.heap.size < w3.heap.size := Nat.lt_of_lt_of_le hq2 hd3.2.size
    have HSM3 := Lib.hid (small_right hr3)
    have hba : Below w3.heap.size w3 (w3.alloc (.cells #[.int .i64 side, .slice A3 l3.length c3] 25)) := (Below.refl _ _).alloc (Nat.le_refl _) _
    have HTB := Lib.hid (HT3.out.below hba)
    have HXB := Lib.hid (HX3.out.below hba hq3)
    have HYB := Lib.hid (GB.made w3 side (.slice A3 l3.length c3) 25)
    have HOB1 := Lib.hid (HO31.out.alloc (.cells #[.int .i64 side, .slice A3 l3.length c3] 25))
    have HOB3 := Lib.hid (ho3.alloc (.cells #[.int .i64 side, .slice A3 l3.length c3] 25))
    have hzB : w3.heap.size < (w3.alloc (.cells #[.int .i64 side, .slice A3 l3.length c3] 25)).heap.size := by simp
    have hqB : w1.heap.size < (w3.alloc (.cells #[.int .i64 side, .slice A3 l3.length c3] 25)).heap.size := by simp; omega
    clear x0 x1 hr3 ho3 hd3 hba HT2 HX2 HO2 HT3 HX3 HO31
    obtain ⟨x0, x1, _, _⟩ := HXB.out
    obtain ⟨y0, y1, _, _⟩ := HYB.out
    go_wp2_with fail
    generalize w3.alloc (.cells #[.int .i64 side, .slice A3 l3.length c3] 25) = V at *
    have hn0 : ¬ w.heap.size = w1.heap.size := by omega
    have hn1 : ¬ w.heap.size + 1 = w1.heap.size := by omega
    have hn2 : ¬ w.heap.size + 1 + 1 = w1.heap.size := by omega
    have hm0 : ¬ w.heap.size = w3.heap.size := by omega
    have hm1 : ¬ w.heap.size + 1 = w3.heap.size := by omega
    have hm2 : ¬ w.heap.size + 1 + 1 = w3.heap.size := by omega
    have HTd := Lib.hid HTB.out.tape
    have hL := later_any g (w.heap.size + 1 + 1 + 1) side A1 c1 l1 V.drew HTd.out.drw.1 HR.out HOB1.out.drew (by omega) (by have := HTd.out.siz; omega)
    go_region_held3 (fun w' => w'.cell? ⟨w1.heap.size, 0, none⟩ = some (.int .i64 side) ∧ w'.cell? ⟨w1.heap.size, 1, none⟩ = some (.slice A1 l1.length c1) ∧ w'.cell? ⟨w3.heap.size, 0, none⟩ = some (.int .i64 side) ∧ w'.cell? ⟨w3.heap.size, 1, none⟩ = some (.slice A3 l3.length c3))
      (first | (with_reducible exact hk4) | (refine ⟨?_, ?_, ?_, ?_⟩ <;> simp only [World.cell?_setCell_far, ne_eq, hn0, hn1, hn2, hm0, hm1, hm2, not_false_eq_true, hk4.1, hk4.2.1, hk4.2.2.1, hk4.2.2.2]) | exact ⟨x0, x1, y0, y1⟩)
      (first
        | (go_at_call 39; refine hL.mono ?_; rintro e w4 ⟨A4, c4, l4, rfl, hr4, ho4, hd4⟩; have HT4 := Lib.hid (HTd.out.drew hd4); have HO41 := Lib.hid (HOB1.out.drew.drewn hd4 (by omega)); have HO43 := Lib.hid (HOB3.out.drew.drewn hd4 (by omega)); have HO4 := Lib.hid ho4; have HSM4 := Lib.hid (small_right hr4); have hk4 := And.intro (HXB.out.drew.drewn hd4 (by omega) hqB).c0 (And.intro (HXB.out.drew.drewn hd4 (by omega) hqB).c1 (And.intro (HYB.out.drew.drewn hd4 (by omega) hzB).c0 (HYB.out.drew.drewn hd4 (by omega) hzB).c1)); obtain ⟨⟨p0, p1, p2, p3⟩, ⟨q0, q1, q2, q3⟩, ⟨s0, s1, s2, s3⟩, _, hz4, _⟩ := HT4.out; clear hr4 ho4 hd4))
    all_goals
      clear hk4 x0 x1 y0 y1
      go_wp2
      refine bodyPost_ret (v := .tuple #[.agg #[.int .i64 side, .slice A1 l1.length c1], .agg #[.int .i64 side, .slice A3 l3.length c3], .agg #[.int .i64 side, .slice A4 l4.length c4]]) (by simp [results, Try.results22, go_sem, p0, p1, q0, q1, s0, s1]) rfl ?_
      exact ⟨side, A1, c1, l1, side, A3, c3, l3, side, A4, c4, l4, rfl, HSM.out, HSM3.out, HSM4.out, put3_own HO41.out (by omega) _ _ _ _ _ _, put3_own HO43.out (by omega) _ _ _ _ _ _, put3_own HO4.out (by omega) _ _ _ _ _ _, put3_drew HT4.out _ _ _ _ _ _⟩

theorem bytes_more {w w' : World} {A : Option Addr} {n : Nat} (h : BytesIn w w.heap.size A n) (hb : Below w.heap.size w w') : BytesIn w' w'.heap.size A n := by
  rcases h with h | ⟨b, off, rfl, hbl, hc⟩
  · exact .inl h
  · exact .inr ⟨b, off, rfl, Nat.lt_of_lt_of_le hbl hb.size, fun j hj => by
      obtain ⟨v, h1, h2⟩ := hc j hj
      exact ⟨v, h1, (hb.cell (p := ⟨b, off + j, none⟩) hbl).trans h2⟩⟩
/-- Three maps that are handed to a law. -/
def MergeArgs (w : World) (e : Ending) (w' : World) : Prop :=
  ∃ (so : Int) (Ao : Option Addr) (co : Nat) (lo : List Int) (sa : Int) (A : Option Addr) (c : Nat) (la : List Int) (sb : Int) (A' : Option Addr) (c' : Nat) (lb : List Int),
    e = .returned (.tuple #[.agg #[.int .i64 so, .slice Ao lo.length co], .agg #[.int .i64 sa, .slice A la.length c], .agg #[.int .i64 sb, .slice A' lb.length c']]) ∧ Small3 so lo ∧ Small3 sa la ∧ Small3 sb lb ∧
    RI w' w'.heap.size Ao lo ∧ RI w' w'.heap.size A la ∧ RI w' w'.heap.size A' lb ∧ Below w.heap.size w w'
set_option maxRecDepth 100000 in
set_option maxHeartbeats 1000000 in
theorem drawMerge_any (A : Option Addr) (n c : Nat) (w : World) (hn : n ≤ 1048576) (hin : BytesIn w w.heap.size A n) :
    Calls Try.prog 18 #[.slice A n c] w (MergeArgs w) := by
  have HB0 : Hid (Below w.heap.size w (((w.alloc (.cells #[.int .i64 0, .slice none 0 0] 25)).alloc (.cells #[.int .i64 0, .slice none 0 0] 25)).alloc (.cells #[.int .i64 0, .slice none 0 0] 25))) := (((Below.refl _ _).alloc (Nat.le_refl _) _).alloc (by simp) _).alloc (by simp; omega) _
  have HS := Lib.hid (source_any A n c _ hn (bytes_more hin HB0.out))
  have HG0 : Hid (GB (((w.alloc (.cells #[.int .i64 0, .slice none 0 0] 25)).alloc (.cells #[.int .i64 0, .slice none 0 0] 25)).alloc (.cells #[.int .i64 0, .slice none 0 0] 25)) w.heap.size 0 (.slice none 0 0)) := ⟨by simp [go_sem], by simp [go_sem], by simp [go_sem], by simp [go_sem]⟩
  have HG1 : Hid (GB (((w.alloc (.cells #[.int .i64 0, .slice none 0 0] 25)).alloc (.cells #[.int .i64 0, .slice none 0 0] 25)).alloc (.cells #[.int .i64 0, .slice none 0 0] 25)) (w.heap.size + 1) 0 (.slice none 0 0)) := ⟨by simp [go_sem], by simp [go_sem], by simp [go_sem], by simp [go_sem]⟩
  have HG2 : Hid (GB (((w.alloc (.cells #[.int .i64 0, .slice none 0 0] 25)).alloc (.cells #[.int .i64 0, .slice none 0 0] 25)).alloc (.cells #[.int .i64 0, .slice none 0 0] 25)) (w.heap.size + 1 + 1) 0 (.slice none 0 0)) := ⟨by simp [go_sem], by simp [go_sem], by simp [go_sem], by simp [go_sem]⟩
  simp only [alloc_size] at HS
  clear hin
  go_enter Try.func18, Try.ntmps18
  go_wp2_with fail
  refine HS.out.mono ?_
  rintro e w1 ⟨rfl, hs1, hb1⟩
  have hz1 := hs1.lt
  have HH0 := Lib.hid (HG0.out.below hb1 (by omega))
  have HH1 := Lib.hid (HG1.out.below hb1 (by omega))
  have HH2 := Lib.hid (HG2.out.below hb1 (by omega))
  have HB1 := Lib.hid (HB0.out.trans (hb1.mono (by omega)))
  have H1 := Lib.hid hs1
  clear hs1 hb1 HG0 HG1 HG2 HB0 HS
  go_wp2_with fail
  refine (three_any (w.heap.size + 1 + 1 + 1) w1 H1.out).mono ?_
  rintro e w2 ⟨so, Ao, co, lo, sa, Aa, ca, la, sb, Ab, cb, lb, rfl, h1, h2, h3, o1, o2, o3, hd⟩
  obtain ⟨p0, p1, p2, p3⟩ := HH0.out.drewn hd (by omega) (by omega)
  obtain ⟨q0, q1, q2, q3⟩ := HH1.out.drewn hd (by omega) (by omega)
  obtain ⟨s0, s1, s2, s3⟩ := HH2.out.drewn hd (by omega) (by omega)
  have HB2 := Lib.hid (HB1.out.trans (hd.below (by omega) (by omega)))
  have HO1 := Lib.hid o1
  have HO2 := Lib.hid o2
  have HO3 := Lib.hid o3
  have hz2 : w.heap.size + 1 + 1 < w2.heap.size := by have := hd.2.size; omega
  clear o1 o2 o3 hd HH0 HH1 HH2
  go_wp2
  refine bodyPost_ret (v := .tuple #[.agg #[.int .i64 so, .slice Ao lo.length co], .agg #[.int .i64 sa, .slice Aa la.length ca], .agg #[.int .i64 sb, .slice Ab lb.length cb]]) (by simp [results, Try.results18, go_sem, p0, p1, q0, q1, s0, s1]) rfl ?_
  refine ⟨so, Ao, co, lo, sa, Aa, ca, la, sb, Ab, cb, lb, rfl, h1, h2, h3, (put3_own (w := w) HO1.out (by omega) _ _ _ _ _ _).ri, (put3_own (w := w) HO2.out (by omega) _ _ _ _ _ _).ri, (put3_own (w := w) HO3.out (by omega) _ _ _ _ _ _).ri, ?_⟩
  exact (((((HB2.out.setCell (by show _ ≤ w.heap.size; omega) _).setCell (by show _ ≤ w.heap.size; omega) _).setCell (by show _ ≤ w.heap.size + 1; omega) _).setCell (by show _ ≤ w.heap.size + 1; omega) _).setCell (by show _ ≤ w.heap.size + 1 + 1; omega) _).setCell (by show _ ≤ w.heap.size + 1 + 1; omega) _
end Go.Proofs.Ythhadbojepcdjaa
