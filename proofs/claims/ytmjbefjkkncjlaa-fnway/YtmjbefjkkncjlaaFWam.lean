/- The law on ways, walked: two answers side by side. -/
import Derived.Test.YtmjbefjkkncjlaaMTe
import Derived.Test.YtmjbefjkkncjlaaWyAbm
import Derived.Test.YtmjbefjkkncjlaaMTc
import Derived.Deep.CutRange
import Derived.Deep.RegionWith
import Derived.Deep.RegionHeld3
namespace Go.Proofs.Ytmjbefjkkncjlaa
open Go.RowKit
set_option linter.unusedVariables false
set_option linter.unusedSimpArgs false

set_option maxRecDepth 100000 in
set_option maxHeartbeats 12000000 in
theorem fnWay_walk (a0 : Option Addr) (len0 cap0 : Nat) (a1 : Option Addr) (len1 cap1 : Nat) (w : World) (i0 : BytesIn w w.heap.size a0 len0) (i1 : BytesIn w w.heap.size a1 len1) :
    Calls Try.prog 3 #[.slice a0 len0 cap0, .slice a1 len1 cap1] w fun e w' => e = .returned (.bool true) ∧ Below w.heap.size w w' := by
  by_cases h0 : 1048576 < (len0 : Int)
  · clear i0 i1
    go_enter Try.func3, Try.ntmps3
    go_wp2_with fail
    go_ret
    exact ⟨rfl, Below.refl _ _⟩
  have hd0 : decide (1048576 < (len0 : Int)) = false := by simpa using h0
  by_cases h1 : 1048576 < (len1 : Int)
  · clear i0 i1 h0
    go_enter Try.func3, Try.ntmps3
    go_wp2_with fail
    go_ret
    exact ⟨rfl, Below.refl _ _⟩
  have hd1 : decide (1048576 < (len1 : Int)) = false := by simpa using h1
  have I0 := Lib.hid i0
  have I1 := Lib.hid i1
  clear i0 i1
  go_enter Try.func3, Try.ntmps3
  go_wp2_with fail
  refine (drawWayOf_any a0 len0 cap0 w (by omega) I0.out).mono ?_
  rintro e w1 ⟨side, A, c, l, ax, ay, bx, b_y, rfl, hsm, hin, ho, hb1⟩
  have hl := hsm.2.2.1
  have hA1 : In64 ax := by have := hin.1; unfold PlIn at this; constructor <;> omega
  have hA2 : In64 ay := by have := hin.1; unfold PlIn at this; constructor <;> omega
  have hB1 : In64 bx := by have := hin.2; unfold PlIn at this; constructor <;> omega
  have hB2 : In64 b_y := by have := hin.2; unfold PlIn at this; constructor <;> omega
  have hA : Hid (In64 ax ∧ In64 ay ∧ In64 bx ∧ In64 b_y) := ⟨hA1, hA2, hB1, hB2⟩
  clear I0 hA1 hA2 hB1 hB2
  have HIN := Lib.hid hin
  have HSM := Lib.hid hsm
  clear hin hsm
  go_wp2_with fail
  have GG : Gm w1.heap.size side A c l (((w1.alloc (.cells #[.int .i64 side, .slice A l.length c] 25)).alloc (.cells #[.int .i64 ax, .int .i64 ay] 27)).alloc (.cells #[.int .i64 bx, .int .i64 b_y] 27)) := ((Gm.made 25 ho.ri).on (belowA _ _)).on (belowA _ _)
  have PA : Pm (w1.heap.size + 1) ax ay (((w1.alloc (.cells #[.int .i64 side, .slice A l.length c] 25)).alloc (.cells #[.int .i64 ax, .int .i64 ay] 27)).alloc (.cells #[.int .i64 bx, .int .i64 b_y] 27)) := by
    have := (Pm.made (w := w1.alloc (.cells #[.int .i64 side, .slice A l.length c] 25)) ax ay 27).on (belowA _ (.cells #[.int .i64 bx, .int .i64 b_y] 27))
    rw [alloc_size] at this
    exact this
  have PB : Pm (w1.heap.size + 1 + 1) bx b_y (((w1.alloc (.cells #[.int .i64 side, .slice A l.length c] 25)).alloc (.cells #[.int .i64 ax, .int .i64 ay] 27)).alloc (.cells #[.int .i64 bx, .int .i64 b_y] 27)) := by
    have := Pm.made (w := (w1.alloc (.cells #[.int .i64 side, .slice A l.length c] 25)).alloc (.cells #[.int .i64 ax, .int .i64 ay] 27)) bx b_y 27
    rw [alloc_size, alloc_size] at this
    exact this
  have HBW : Below w.heap.size w (((w1.alloc (.cells #[.int .i64 side, .slice A l.length c] 25)).alloc (.cells #[.int .i64 ax, .int .i64 ay] 27)).alloc (.cells #[.int .i64 bx, .int .i64 b_y] 27)) := bAnd hb1 (bAnd (belowA _ _) (bAnd (belowA _ _) (belowA _ _)))
  generalize (((w1.alloc (.cells #[.int .i64 side, .slice A l.length c] 25)).alloc (.cells #[.int .i64 ax, .int .i64 ay] 27)).alloc (.cells #[.int .i64 bx, .int .i64 b_y] 27)) = W at GG PA PB HBW ⊢
  generalize w1.heap.size + 1 + 1 = bb at PB ⊢
  generalize w1.heap.size + 1 = ba at PA ⊢
  generalize w1.heap.size = bg at GG ⊢
  clear hb1 ho
  obtain ⟨P, HPd, HK, HP, pW⟩ : ∃ P : World → Prop, Hid (∀ v, P v = Below W.heap.size W v) ∧ Hid (Kep P) ∧ Hid (∀ w', P w' → Gm bg side A c l w' ∧ Pm ba ax ay w' ∧ Pm bb bx b_y w' ∧ Below w.heap.size w w') ∧ P W :=
    ⟨fun w' => Below W.heap.size W w', fun _ => rfl, fun v v' hb h => h.trans (hb.mono h.size), fun v h => ⟨GG.on h, PA.on h, PB.on h, bAnd HBW h⟩, Below.refl _ _⟩
  have HPA : Hid (∀ v o, P v → P (v.alloc o)) := fun v o h => HK.out _ _ (belowA v o) h
  have HPS : Hid (∀ v q i x, P v → W.heap.size ≤ q → P (v.setCell ⟨q, i, none⟩ x)) := by
    intro v q i x h hq
    rw [HPd.out] at h ⊢
    exact h.setCell hq _
  have HPZ : Hid (∀ v, P v → W.heap.size ≤ v.heap.size) := by
    intro v h
    rw [HPd.out] at h
    exact h.size
  have HS : Hid (∀ w', P w' → w'.cell? ⟨bg, 0, none⟩ = some (.int .i64 side) ∧ w'.cell? ⟨bg, 1, none⟩ = some (.slice A l.length c) ∧ w'.cell? ⟨ba, 0, none⟩ = some (.int .i64 ax) ∧ w'.cell? ⟨ba, 1, none⟩ = some (.int .i64 ay) ∧ w'.cell? ⟨bb, 0, none⟩ = some (.int .i64 bx) ∧ w'.cell? ⟨bb, 1, none⟩ = some (.int .i64 b_y)) := by
    intro w' h
    obtain ⟨h1, h2, h3, _⟩ := HP.out w' h
    exact ⟨h1.c0, h1.c1, h2.c0, h2.c1, h3.c0, h3.c1⟩
  clear GG PA PB HBW
  obtain ⟨D, hD⟩ := gdist_any side l ax ay
  obtain ⟨L, hL⟩ := wayto_any side l ax ay bx b_y D hD
  have HI : Hid (∀ wr, P wr → Calls Try.prog 6 #[.agg #[.int .i64 side, .slice A l.length c], .agg #[.int .i64 ax, .int .i64 ay], .agg #[.int .i64 bx, .int .i64 b_y]] wr (fun e w' => WRead wr w' (wayOut side l ax ay bx b_y D L) e)) := fun wr p => (pWayOf_any side ax ay bx b_y A c l D L wr (HP.out _ p).1.ri (by omega) hA.out.1 hA.out.2.1 hA.out.2.2.1 hA.out.2.2.2 hD hL).mono fun _ _ h => WOut.rd h
  have HM : Hid (∀ wr, P wr → Calls Try.prog 7 #[.agg #[.int .i64 side, .slice A l.length c], .agg #[.int .i64 ax, .int .i64 ay], .agg #[.int .i64 bx, .int .i64 b_y]] wr (fun e w' => WRead wr w' (wayOut side l ax ay bx b_y D L) e)) := fun wr p => (mWayOf_any side ax ay bx b_y A c l D L wr (HP.out _ p).1.ri (by omega) hD hL).mono fun _ _ h => WOut.rd h
  have HF : Hid ((wayOut side l ax ay bx b_y D L).1 = 0 → gridRight side l = true ∧ opn side l ax ay = true ∧ opn side l bx b_y = true ∧ 0 ≤ dk D (pn side bx b_y) ∧ (wayOut side l ax ay bx b_y D L).2.1 = dk D (pn side bx b_y) ∧ (wayOut side l ax ay bx b_y D L).2.2 = L) := by
    intro h
    obtain ⟨g1, g2, g3, g4, g5⟩ := wayOut_good h
    exact ⟨g1, g2, g3, g4, by rw [g5], by rw [g5]⟩
  have hlT := wayOut_small hD hL
  have HDL : Hid (((gridRight side l && opn side l ax ay) = true → GDist side l ax ay D) ∧ ((gridRight side l && opn side l ax ay && opn side l bx b_y) = true → WayTo side l D ⟨bx, b_y⟩ L)) := ⟨hD, hL⟩
  clear hD hL
  unfold WRead at HI HM
  generalize wayOut side l ax ay bx b_y D L = R1 at *
  obtain ⟨C1, S1, T1⟩ := R1
  simp only at HI HM HF hlT
  obtain ⟨k0, k1, k2, k3, k4, k5⟩ := HS.out _ pW
  go_cut [8, 9] from 38 to 45 (fun cx cy wx => Pair P S1 C1 T1 cx cy wx)
  case first => as_aux_lemma =>
    clear k0 k1 k2 k3 k4 k5
    have p0 := HK.out _ _ (belowD W) pW
    have pZ := HK.out _ _ (bAnd (belowA W (.cells #[.slice none 0 0, .int .i64 0, .int .i64 0] 32)) (belowD _)) pW
    have pZZ := HK.out _ _ (bAnd (bAnd (belowA W (.cells #[.slice none 0 0, .int .i64 0, .int .i64 0] 32)) (belowA _ (.cells #[.slice none 0 0, .int .i64 0, .int .i64 0] 32))) (belowD _)) pW
    have zZ := (Zb.made (w0 := W) (Nat.le_refl W.heap.size)).on (belowD _)
    have zZ2 := ((Zb.made (w0 := W) (Nat.le_refl W.heap.size)).on (belowA _ (.cells #[.slice none 0 0, .int .i64 0, .int .i64 0] 32))).on (belowD _)
    have zZ3 := (Zb.made (w0 := W) (w := W.alloc (.cells #[.slice none 0 0, .int .i64 0, .int .i64 0] 32)) (by simp)).on (belowD _)
    rw [alloc_size] at zZ3
    have hkeep := HS.out _ p0
    go_region_held3 (fun w' => w'.cell? ⟨bg, 0, none⟩ = some (.int .i64 side) ∧ w'.cell? ⟨bg, 1, none⟩ = some (.slice A l.length c) ∧ w'.cell? ⟨ba, 0, none⟩ = some (.int .i64 ax) ∧ w'.cell? ⟨ba, 1, none⟩ = some (.int .i64 ay) ∧ w'.cell? ⟨bb, 0, none⟩ = some (.int .i64 bx) ∧ w'.cell? ⟨bb, 1, none⟩ = some (.int .i64 b_y))
      (first
        | (with_reducible exact hkeep)
        | (refine HS.out _ ?_; repeat (first | (with_reducible exact p2) | (with_reducible exact p1) | (with_reducible exact pZZ) | (with_reducible exact pZ) | (with_reducible exact p0) | (refine HPS.out _ _ _ _ ?_ (by first | (with_reducible exact hqx) | (with_reducible exact hqy) | exact Nat.le_refl _ | exact hv2 | (simp; omega))) | (refine HPA.out _ _ ?_))))
      (first
        | (go_at_call 7; have _c := p1; clear _c; refine (HM.out v1 p1).mono ?_; rintro e v2 ⟨Y, k', rfl, ry, oy, hb⟩; have oy := Lib.hid oy; have hvs := Lib.hid hb.size; clear hkeep; have hb12 := hb; have p2 := HK.out _ _ hb12 p1; have hkeep := HS.out _ p2; have rx2 := rx.below' hb12; have hv2 := HPZ.out _ p2; try (have gx := Lib.hid (oy.out.off_lo zx.lt.2); have zx2 := zx.on hb12; obtain ⟨s0, s1, s2, t0, t1, t2⟩ := zx2.m; have hzx := zx2.lt.2; have hqx := zx2.lt.1); try (have gy := Lib.hid (oy.out.off_lo zy.lt.2); have zy2 := zy.on hb12; obtain ⟨u0, u1, u2, y0, y1, y2⟩ := zy2.m; have hzy := zy2.lt.2; have hqy := zy2.lt.1); clear hb)
        | (go_at_call 7; have _c := p1; clear _c; refine (HM.out (v1.alloc (.cells #[.slice none 0 0, .int .i64 0, .int .i64 0] 32)) (HK.out _ _ (belowA _ _) p1)).mono ?_; rintro e v2 ⟨Y, k', rfl, ry, oy, hb⟩; have oy := Lib.hid oy; have hvs := Lib.hid hb.size; clear hkeep; have hb12 := bAnd (belowA _ _) hb; have p2 := HK.out _ _ hb12 p1; have hkeep := HS.out _ p2; have rx2 := rx.below' hb12; have hv1 := HPZ.out _ p1; have hv2 := HPZ.out _ p2; first | (have gx := Lib.hid (oy.out.off_lo (Nat.lt_of_lt_of_le zx.lt.2 (by simp))); have fy := Lib.hid (ox.out.off_hi (Nat.le_refl _)); have gy := Lib.hid (oy.out.off_lo (q := v1.heap.size) (by simp)); have zx2 := zx.on hb12; have zy2 := (Zb.made (w0 := W) hv1).on hb; have hxy := Nat.lt_of_lt_of_le zx.lt.2 (Nat.le_refl _); obtain ⟨s0, s1, s2, t0, t1, t2⟩ := zx2.m; have hzx := zx2.lt.2; have hqx := zx2.lt.1; obtain ⟨u0, u1, u2, y0, y1, y2⟩ := zy2.m; have hzy := zy2.lt.2; have hqy := zy2.lt.1; have hn1 := Nat.ne_of_lt hxy; have hn2 := Nat.ne_of_gt hxy; have hne := Lib.hid hn1) | (have fx := Lib.hid (ox.out.off_hi (Nat.le_refl _)); have gx := Lib.hid (oy.out.off_lo (q := v1.heap.size) (by simp)); have zx2 := (Zb.made (w0 := W) hv1).on hb; obtain ⟨s0, s1, s2, t0, t1, t2⟩ := zx2.m; have hzx := zx2.lt.2; have hqx := zx2.lt.1); clear hb)
        | (go_at_call 7; have _c := p1; clear _c; refine (HM.out ((v1.alloc (.cells #[.slice none 0 0, .int .i64 0, .int .i64 0] 32)).alloc (.cells #[.slice none 0 0, .int .i64 0, .int .i64 0] 32)) (HK.out _ _ (bAnd (belowA _ _) (belowA _ _)) p1)).mono ?_; rintro e v2 ⟨Y, k', rfl, ry, oy, hb⟩; have oy := Lib.hid oy; have hvs := Lib.hid hb.size; clear hkeep; have hb12 := bAnd (bAnd (belowA _ _) (belowA _ _)) hb; have p2 := HK.out _ _ hb12 p1; have hkeep := HS.out _ p2; have rx2 := rx.below' hb12; have hv1 := HPZ.out _ p1; have hv2 := HPZ.out _ p2; have fx := Lib.hid (ox.out.off_hi (Nat.le_refl _)); have gx := Lib.hid (oy.out.off_lo (q := v1.heap.size) (by simp; omega)); have fy := Lib.hid (ox.out.off_hi (Nat.le_succ _)); have gy := Lib.hid (oy.out.off_lo (q := v1.heap.size + 1) (by simp)); have hne := Lib.hid (Nat.ne_of_lt (Nat.lt_succ_self v1.heap.size)); have zx2 := ((Zb.made (w0 := W) hv1).on (belowA _ (.cells #[.slice none 0 0, .int .i64 0, .int .i64 0] 32))).on hb; have zy2 := (Zb.made (w0 := W) (w := v1.alloc (.cells #[.slice none 0 0, .int .i64 0, .int .i64 0] 32)) (by simp; omega)).on hb; rw [alloc_size] at zy2; obtain ⟨s0, s1, s2, t0, t1, t2⟩ := zx2.m; have hzx := zx2.lt.2; have hqx := zx2.lt.1; obtain ⟨u0, u1, u2, y0, y1, y2⟩ := zy2.m; have hzy := zy2.lt.2; have hqy := zy2.lt.1; clear hb)
        | (go_at_call 6; refine (HI.out W.drew p0).mono ?_; rintro e v1 ⟨X, k, rfl, rx, ox, hb⟩; have ox := Lib.hid ox; clear hkeep; have p1 := HK.out _ _ hb p0; have hkeep := HS.out _ p1; clear hb)
        | (go_at_call 6; refine (HI.out (W.alloc (.cells #[.slice none 0 0, .int .i64 0, .int .i64 0] 32)).drew pZ).mono ?_; rintro e v1 ⟨X, k, rfl, rx, ox, hb⟩; have ox := Lib.hid ox; clear hkeep; have p1 := HK.out _ _ hb pZ; have hkeep := HS.out _ p1; have zx := zZ.on hb; have fx := Lib.hid (ox.out.off_lo zZ.lt.2); clear hb)
        | (go_at_call 6; refine (HI.out ((W.alloc (.cells #[.slice none 0 0, .int .i64 0, .int .i64 0] 32)).alloc (.cells #[.slice none 0 0, .int .i64 0, .int .i64 0] 32)).drew pZZ).mono ?_; rintro e v1 ⟨X, k, rfl, rx, ox, hb⟩; have ox := Lib.hid ox; clear hkeep; have p1 := HK.out _ _ hb pZZ; have hkeep := HS.out _ p1; have zx := zZ2.on hb; have zy := zZ3.on hb; have fx := Lib.hid (ox.out.off_lo zZ2.lt.2); have fy := Lib.hid (ox.out.off_lo zZ3.lt.2); have hne := Lib.hid (Nat.ne_of_lt (Nat.lt_succ_self W.heap.size)); clear hb))
    all_goals
      clear hkeep
      go_wp2_with fail
      go_meet
      first
        | (with_reducible exact pair_a1 HPA.out p2 rx2 ry)
        | (with_reducible exact pair_a2 HPA.out p2 rx2 ry)
        | (with_reducible exact pair_b1 HPA.out HPS.out p2 rx2 ry zx2 fx.out gx.out)
        | (with_reducible exact pair_b2 HPA.out HPS.out p2 rx2 ry zx2 fx.out gx.out)
        | (with_reducible exact pair_c1 HPS.out p2 rx2 ry zx2 fx.out gx.out zy2 fy.out gy.out hne.out)
        | (with_reducible exact pair_c1 HPS.out p2 rx2 ry zy2 fy.out gy.out zx2 fx.out gx.out hne.out.symm)
        | (with_reducible exact pair_c2 HPS.out p2 rx2 ry zx2 fx.out gx.out zy2 fy.out gy.out hne.out)
        | (with_reducible exact pair_c2 HPS.out p2 rx2 ry zy2 fy.out gy.out zx2 fx.out gx.out hne.out.symm)
  case rest =>
    obtain ⟨qx, qy, X, k, Y, k', rfl, rfl, pc, mx, my⟩ := hcut
    clear HM HI k0 k1 k2 k3 k4 k5 pW HPA HPS HPZ HPd
    go_wp2_with fail
    refine (drawDists_any a1 len1 cap1 wc (by omega) (bytes_more I1.out (HP.out _ pc).2.2.2)).mono ?_
    rintro e w2 ⟨hs, Ah, ch, lh, fx, fy, rfl, hsm2, hin2, oh, hb⟩
    have hlh := hsm2.2.2.1
    have hIF : Hid (In64 fx ∧ In64 fy) := by unfold PlIn at hin2; exact ⟨⟨by omega, by omega⟩, ⟨by omega, by omega⟩⟩
    replace pc := HK.out _ _ hb pc; replace mx := mx.on hb; replace my := my.on hb
    have hbw : Below w2.heap.size w2 ((w2.alloc (.cells #[.int .i64 hs, .slice Ah lh.length ch] 25)).alloc (.cells #[.int .i64 fx, .int .i64 fy] 27)) := bAnd (belowA _ _) (belowA _ _)
    replace pc := HK.out _ _ hbw pc; replace mx := mx.on hbw; replace my := my.on hbw
    have GH : Gm w2.heap.size hs Ah ch lh ((w2.alloc (.cells #[.int .i64 hs, .slice Ah lh.length ch] 25)).alloc (.cells #[.int .i64 fx, .int .i64 fy] 27)) := (Gm.made 25 oh.ri).on (belowA _ _)
    have PF : Pm (w2.heap.size + 1) fx fy ((w2.alloc (.cells #[.int .i64 hs, .slice Ah lh.length ch] 25)).alloc (.cells #[.int .i64 fx, .int .i64 fy] 27)) := by
      have := Pm.made (w := w2.alloc (.cells #[.int .i64 hs, .slice Ah lh.length ch] 25)) fx fy 27
      rw [alloc_size] at this
      exact this
    clear hb hbw oh hsm2 hin2
    go_wp2_with fail
    generalize ((w2.alloc (.cells #[.int .i64 hs, .slice Ah lh.length ch] 25)).alloc (.cells #[.int .i64 fx, .int .i64 fy] 27)) = W2 at GH PF pc mx my ⊢
    generalize w2.heap.size + 1 = bf at PF ⊢
    generalize w2.heap.size = bh at GH ⊢
    obtain ⟨D2, hD2⟩ := gdist_any hs lh fx fy
    have hdl := dOut_len hs lh fx fy D2 hD2
    have HDF := Lib.hid (dOut_facts hD2)
    have N2 : Hid (∀ v, RI v v.heap.size Ah lh → Calls Try.prog 13 #[.agg #[.int .i64 hs, .slice Ah lh.length ch], .agg #[.int .i64 fx, .int .i64 fy]] v fun e w' => NRead v w' (dOut hs lh fx fy D2) e) := fun v h => (mDists_any hs fx fy Ah ch lh D2 v h (by omega) hD2).mono fun _ _ h => h.rd
    refine (pDists_any hs fx fy Ah ch lh D2 W2 GH.ri (by omega) hIF.out.1 hIF.out.2 hD2).mono ?_
    unfold NRead at N2
    clear hD2
    generalize dOut hs lh fx fy D2 = dl at *
    rintro e w3 ⟨Ad, cd, rfl, od, hb⟩
    have rd := od.ri
    replace pc := HK.out _ _ hb pc; replace mx := mx.on hb; replace my := my.on hb; replace GH := GH.on hb; replace PF := PF.on hb
    clear od hb
    go_wp2_with fail
    refine (drawDist_any a1 len1 cap1 w3 (by omega) (bytes_more I1.out (HP.out _ pc).2.2.2)).mono ?_
    rintro e w4 ⟨so, Ao, co, lo, px, py, ux, uy, rfl, hsm3, hin3, oo, hb⟩
    have hlo := hsm3.2.2.1
    have hIG : Hid ((In64 px ∧ In64 py) ∧ In64 ux ∧ In64 uy) := by unfold PlIn at hin3; exact ⟨⟨⟨by omega, by omega⟩, ⟨by omega, by omega⟩⟩, ⟨by omega, by omega⟩, ⟨by omega, by omega⟩⟩
    have hbw : Below w4.heap.size w4 (((w4.alloc (.cells #[.int .i64 so, .slice Ao lo.length co] 25)).alloc (.cells #[.int .i64 px, .int .i64 py] 27)).alloc (.cells #[.int .i64 ux, .int .i64 uy] 27)) := bAnd (belowA _ _) (bAnd (belowA _ _) (belowA _ _))
    replace pc := HK.out _ _ hb pc; replace mx := mx.on hb; replace my := my.on hb; replace GH := GH.on hb; replace PF := PF.on hb; replace rd := rd.go hb
    replace pc := HK.out _ _ hbw pc; replace mx := mx.on hbw; replace my := my.on hbw; replace GH := GH.on hbw; replace PF := PF.on hbw; replace rd := rd.go hbw
    have GO : Gm w4.heap.size so Ao co lo (((w4.alloc (.cells #[.int .i64 so, .slice Ao lo.length co] 25)).alloc (.cells #[.int .i64 px, .int .i64 py] 27)).alloc (.cells #[.int .i64 ux, .int .i64 uy] 27)) := ((Gm.made 25 oo.ri).on (belowA _ _)).on (belowA _ _)
    have PP : Pm (w4.heap.size + 1) px py (((w4.alloc (.cells #[.int .i64 so, .slice Ao lo.length co] 25)).alloc (.cells #[.int .i64 px, .int .i64 py] 27)).alloc (.cells #[.int .i64 ux, .int .i64 uy] 27)) := by
      have := (Pm.made (w := w4.alloc (.cells #[.int .i64 so, .slice Ao lo.length co] 25)) px py 27).on (belowA _ (.cells #[.int .i64 ux, .int .i64 uy] 27))
      rw [alloc_size] at this
      exact this
    have PQ : Pm (w4.heap.size + 1 + 1) ux uy (((w4.alloc (.cells #[.int .i64 so, .slice Ao lo.length co] 25)).alloc (.cells #[.int .i64 px, .int .i64 py] 27)).alloc (.cells #[.int .i64 ux, .int .i64 uy] 27)) := by
      have := Pm.made (w := (w4.alloc (.cells #[.int .i64 so, .slice Ao lo.length co] 25)).alloc (.cells #[.int .i64 px, .int .i64 py] 27)) ux uy 27
      rw [alloc_size, alloc_size] at this
      exact this
    clear hb hbw oo hsm3 hin3
    go_wp2_with fail
    generalize (((w4.alloc (.cells #[.int .i64 so, .slice Ao lo.length co] 25)).alloc (.cells #[.int .i64 px, .int .i64 py] 27)).alloc (.cells #[.int .i64 ux, .int .i64 uy] 27)) = W5 at GH PF GO PP PQ rd pc mx my ⊢
    generalize w4.heap.size + 1 + 1 = bq at PQ ⊢
    generalize w4.heap.size + 1 = bp at PP ⊢
    generalize w4.heap.size = bo at GO ⊢
    obtain ⟨D3, hD3⟩ := gdist_any so lo px py
    obtain ⟨D4, hD4⟩ := gdist_any so lo ux uy
    have hT := dOne_turn hD3 hD4
    have N5 : Hid (∀ v, RI v v.heap.size Ao lo → Calls Try.prog 14 #[.agg #[.int .i64 so, .slice Ao lo.length co], .agg #[.int .i64 px, .int .i64 py], .agg #[.int .i64 ux, .int .i64 uy]] v fun e w' => e = .returned (.int .i64 (dOne so lo px py ux uy D3)) ∧ Below v.heap.size v w') := fun v h => pDist_any so px py ux uy Ao co lo D3 v h (by omega) hIG.out.1.1 hIG.out.1.2 hIG.out.2.1 hIG.out.2.2 hD3
    have N6 : Hid (∀ v, RI v v.heap.size Ao lo → Calls Try.prog 15 #[.agg #[.int .i64 so, .slice Ao lo.length co], .agg #[.int .i64 px, .int .i64 py], .agg #[.int .i64 ux, .int .i64 uy]] v fun e w' => e = .returned (.int .i64 (dOne so lo px py ux uy D3)) ∧ Below v.heap.size v w') := fun v h => mDist_any so px py ux uy Ao co lo D3 v h (by omega) hD3
    have N7 : Hid (∀ v, RI v v.heap.size Ao lo → Calls Try.prog 14 #[.agg #[.int .i64 so, .slice Ao lo.length co], .agg #[.int .i64 ux, .int .i64 uy], .agg #[.int .i64 px, .int .i64 py]] v fun e w' => e = .returned (.int .i64 (dOne so lo px py ux uy D3)) ∧ Below v.heap.size v w') := by
      intro v h
      have := pDist_any so ux uy px py Ao co lo D4 v h (by omega) hIG.out.2.1 hIG.out.2.2 hIG.out.1.1 hIG.out.1.2 hD4
      rwa [← hT] at this
    clear hT hD3 hD4
    generalize dOne so lo px py ux uy D3 = n3 at *
    obtain ⟨Q, HQK, HQ, q0⟩ : ∃ Q : World → Prop, Hid (Kep Q) ∧ Hid (∀ v, Q v → P v ∧ Wm qx S1 C1 X k T1 v ∧ Wm qy S1 C1 Y k' T1 v ∧ Gm bh hs Ah ch lh v ∧ Pm bf fx fy v ∧ RI v v.heap.size Ad dl ∧ Gm bo so Ao co lo v ∧ Pm bp px py v ∧ Pm bq ux uy v) ∧ Q W5 :=
      ⟨fun v => Below W5.heap.size W5 v, fun v v' hb h => h.trans (hb.mono h.size), fun v h => ⟨HK.out _ _ h pc, mx.on h, my.on h, GH.on h, PF.on h, rd.go h, GO.on h, PP.on h, PQ.on h⟩, Below.refl _ _⟩
    have HQS : Hid (∀ w', Q w' → w'.cell? ⟨qx, 0, none⟩ = some (.slice X T1.length k) ∧ w'.cell? ⟨qx, 1, none⟩ = some (.int .i64 S1) ∧ w'.cell? ⟨qx, 2, none⟩ = some (.int .i64 C1) ∧ w'.cell? ⟨qy, 0, none⟩ = some (.slice Y T1.length k') ∧ w'.cell? ⟨qy, 1, none⟩ = some (.int .i64 S1) ∧ w'.cell? ⟨qy, 2, none⟩ = some (.int .i64 C1) ∧ w'.cell? ⟨bh, 0, none⟩ = some (.int .i64 hs) ∧ w'.cell? ⟨bh, 1, none⟩ = some (.slice Ah lh.length ch) ∧ w'.cell? ⟨bf, 0, none⟩ = some (.int .i64 fx) ∧ w'.cell? ⟨bf, 1, none⟩ = some (.int .i64 fy) ∧ w'.cell? ⟨bo, 0, none⟩ = some (.int .i64 so) ∧ w'.cell? ⟨bo, 1, none⟩ = some (.slice Ao lo.length co) ∧ w'.cell? ⟨bp, 0, none⟩ = some (.int .i64 px) ∧ w'.cell? ⟨bp, 1, none⟩ = some (.int .i64 py) ∧ w'.cell? ⟨bq, 0, none⟩ = some (.int .i64 ux) ∧ w'.cell? ⟨bq, 1, none⟩ = some (.int .i64 uy)) := by
      intro w' h
      obtain ⟨_, h1, h2, h3, h4, _, h5, h6, h7⟩ := HQ.out w' h
      exact ⟨h1.m.c0, h1.m.c1, h1.m.c2, h2.m.c0, h2.m.c1, h2.m.c2, h3.c0, h3.c1, h4.c0, h4.c1, h5.c0, h5.c1, h6.c0, h6.c1, h7.c0, h7.c1⟩
    clear GH PF GO PP PQ rd pc mx my
    go_cut [109] from 60 to 109 (fun c wx => c = .bool false ∧ Q wx)
    case first => as_aux_lemma =>
      have q0 := HQK.out _ _ (belowD W5) q0
      have hkeep := HQS.out _ q0
      go_region_held3 (fun w' => w'.cell? ⟨qx, 0, none⟩ = some (.slice X T1.length k) ∧ w'.cell? ⟨qx, 1, none⟩ = some (.int .i64 S1) ∧ w'.cell? ⟨qx, 2, none⟩ = some (.int .i64 C1) ∧ w'.cell? ⟨qy, 0, none⟩ = some (.slice Y T1.length k') ∧ w'.cell? ⟨qy, 1, none⟩ = some (.int .i64 S1) ∧ w'.cell? ⟨qy, 2, none⟩ = some (.int .i64 C1) ∧ w'.cell? ⟨bh, 0, none⟩ = some (.int .i64 hs) ∧ w'.cell? ⟨bh, 1, none⟩ = some (.slice Ah lh.length ch) ∧ w'.cell? ⟨bf, 0, none⟩ = some (.int .i64 fx) ∧ w'.cell? ⟨bf, 1, none⟩ = some (.int .i64 fy) ∧ w'.cell? ⟨bo, 0, none⟩ = some (.int .i64 so) ∧ w'.cell? ⟨bo, 1, none⟩ = some (.slice Ao lo.length co) ∧ w'.cell? ⟨bp, 0, none⟩ = some (.int .i64 px) ∧ w'.cell? ⟨bp, 1, none⟩ = some (.int .i64 py) ∧ w'.cell? ⟨bq, 0, none⟩ = some (.int .i64 ux) ∧ w'.cell? ⟨bq, 1, none⟩ = some (.int .i64 uy))
        (first
          | (with_reducible exact hkeep)
          | go_keep)
        (first
          | (go_at_call 14; have _c := q6; clear _c; refine (N7.out v6 (HQ.out _ q6).2.2.2.2.2.2.1.ri).mono ?_; rintro e v7 ⟨rfl, hb⟩; clear hkeep; have q7 := HQK.out _ _ hb q6; have hkeep := HQS.out _ q7; clear hb)
          | (go_at_call 14; have _c := q5; clear _c; refine (N5.out v5 (HQ.out _ q5).2.2.2.2.2.2.1.ri).mono ?_; rintro e v6 ⟨rfl, hb⟩; clear hkeep; have q6 := HQK.out _ _ hb q5; have hkeep := HQS.out _ q6; clear hb)
          | (go_at_call 15; have _c := q4; clear _c; refine (N6.out v4 (HQ.out _ q4).2.2.2.2.2.2.1.ri).mono ?_; rintro e v5 ⟨rfl, hb⟩; clear hkeep; have q5 := HQK.out _ _ hb q4; have hkeep := HQS.out _ q5; clear hb)
          | (go_at_call 14; have _c := q3; clear _c; refine (N5.out v3 (HQ.out _ q3).2.2.2.2.2.2.1.ri).mono ?_; rintro e v4 ⟨rfl, hb⟩; clear hkeep; have q4 := HQK.out _ _ hb q3; have hkeep := HQS.out _ q4; clear hb)
          | (go_at_call 12; have _c := q2; clear _c; refine (lwNums_any Ad A2 cd c2 dl v2 (HQ.out _ q2).2.2.2.2.2.1 r2 (by omega)).mono ?_; rintro e v3 ⟨rfl, hb⟩; clear hkeep; have q3 := HQK.out _ _ hb q2; have hkeep := HQS.out _ q3; clear hb)
          | (go_at_call 13; have _c := q1; clear _c; refine (N2.out v1 (HQ.out _ q1).2.2.2.1.ri).mono ?_; rintro e v2 ⟨A2, c2, rfl, r2, hb⟩; clear hkeep; have q2 := HQK.out _ _ hb q1; have hkeep := HQS.out _ q2; clear hb)
          | (go_at_call 11; have _c := q0; clear _c; refine (lwPlaces_any X Y k k' T1 W5.drew (HQ.out _ q0).2.1.rp (HQ.out _ q0).2.2.1.rp (by omega)).mono ?_; rintro e v1 ⟨rfl, hb⟩; clear hkeep; have q1 := HQK.out _ _ hb q0; have hkeep := HQS.out _ q1; clear hb))
      all_goals
        go_wp2_with fail
        go_meet
        exact ⟨rfl, q7⟩
    case rest =>
      obtain ⟨rfl, qc⟩ := hcut
      clear q0 N2 N5 N6 N7
      have QC := Lib.hid qc
      clear qc
      go_wp2_with fail
      go_loopw [16] (fun i wr => ∃ n : Nat, i = .int .i64 n ∧ n ≤ dl.length ∧ Hid (Q wr)) (fun i _ => dl.length - (intOf i).toNat)
      case atStart => exact ⟨0, rfl, Nat.zero_le _, QC⟩
      case round => as_aux_lemma =>
        obtain ⟨n, rfl, hn, HQn⟩ := hrel
        by_cases hlt : n < dl.length
        · have hnI : (n : Int) < (dl.length : Int) := by omega
          go_wp2_with fail
          go_loopw [17] (fun j wr => ∃ m : Nat, j = .int .i64 m ∧ m ≤ dl.length ∧ Hid (Q wr)) (fun j _ => dl.length - (intOf j).toNat)
          case atStart => exact ⟨0, rfl, Nat.zero_le _, HQn⟩
          case round => as_aux_lemma =>
            obtain ⟨m, rfl, hm, HQm⟩ := hrel
            by_cases hlt2 : m < dl.length
            · have hmI : (m : Int) < (dl.length : Int) := by omega
              obtain ⟨e1, hsd, htl, hdv, hnear⟩ := HDF.out (by omega)
              have hn2 : n < lh.length := by omega
              have hm2 : m < lh.length := by omega
              obtain ⟨_, _, _, hG, _, hR, _⟩ := HQ.out _ HQm.out
              obtain ⟨d1, d2, rfl, _, hc1⟩ := hR.at_ hlt
              obtain ⟨d1b, d2b, ed, _, hc2⟩ := hR.at_ hlt2
              obtain ⟨rfl, rfl⟩ : d1 = d1b ∧ d2 = d2b := by cases ed; exact ⟨rfl, rfl⟩
              clear ed
              obtain ⟨t1, t2, rfl, _, hc3⟩ := hG.ri.at_ hn2
              obtain ⟨t1b, t2b, ed, _, hc4⟩ := hG.ri.at_ hm2
              obtain ⟨rfl, rfl⟩ : t1 = t1b ∧ t2 = t2b := by cases ed; exact ⟨rfl, rfl⟩
              clear ed
              have g0 := hG.c0; have g1 := hG.c1
              have HNR := Lib.hid (hnear n m hlt hlt2 hn2 hm2)
              have b1 := hdv n hlt; have b2 := hdv m hlt2; have b3 := htl n hn2; have b4 := htl m hm2
              have hlh2 : lh.length = dl.length := e1.symm
              clear hnear hdv htl hG hR e1
              generalize dl[n] = di at *
              generalize dl[m] = dj at *
              generalize lh[n] = ln at *
              generalize lh[m] = lm at *
              have hnL : (n : Int) < (lh.length : Int) := by omega
              have hmL : (m : Int) < (lh.length : Int) := by omega
              have hn64 : n ≤ 64 := by omega
              have hm64 : m ≤ 64 := by omega
              obtain ⟨F, HF0, hF⟩ : ∃ F : World → Prop, Hid (∀ v, F v → Q v ∧ v.cell? ⟨bh, 0, none⟩ = some (.int .i64 hs) ∧ v.cell? ⟨bh, 1, none⟩ = some (.slice (some ⟨t1, t2, none⟩) lh.length ch) ∧ v.cell? ⟨d1, d2 + n, none⟩ = some (.int .i64 di) ∧ v.cell? ⟨d1, d2 + m, none⟩ = some (.int .i64 dj) ∧ v.cell? ⟨t1, t2 + n, none⟩ = some (.int .i64 ln) ∧ v.cell? ⟨t1, t2 + m, none⟩ = some (.int .i64 lm)) ∧ F wr :=
                ⟨_, fun _ h => h, HQm.out, g0, g1, hc1, hc2, hc3, hc4⟩
              go_upto_region 16 with fail
              go_cut [18] from 122 to 140 (fun c wx => c = .bool (nearB hs n m) ∧ F wx)
              case first => as_aux_lemma =>
                have hs0 : hs ≠ 0 := by omega
                have hw1 : IntKind.i64.wrap ((n : Int) + 1) = n + 1 := IntWalk.i64_in _ (by omega)
                have hw2 : IntKind.i64.wrap ((n : Int) + hs) = n + hs := IntWalk.i64_in _ (by omega)
                have hw3 : IntKind.i64.wrap ((m : Int).tmod hs) = (m : Int).tmod hs := by
                  have h1 := Int.tmod_nonneg hs (show (0 : Int) ≤ m by omega)
                  have h2 := Int.tmod_lt_of_pos (m : Int) (show 0 < hs by omega)
                  exact IntWalk.i64_in _ (by omega)
                have hw4 : wrap64 ((m : Int).tmod hs) = (m : Int).tmod hs := by
                  have h1 := Int.tmod_nonneg hs (show (0 : Int) ≤ m by omega)
                  have h2 := Int.tmod_lt_of_pos (m : Int) (show 0 < hs by omega)
                  exact wrap64_in (by omega) (by omega)
                clear HNR g1 hc1 hc2 hc3 hc4
                have HNB : Hid (nearB hs n m = ((((m : Int) == n + 1) && decide (0 < (m : Int) % hs)) || ((m : Int) == n + hs))) := rfl
                cases k1 : ((m : Int) == n + 1)
                · cases k3 : ((m : Int) == n + hs)
                  · go_wp2_with fail
                    go_meet
                    exact ⟨by rw [HNB.out, k1, k3]; rfl, hF⟩
                  · go_wp2_with fail
                    go_meet
                    exact ⟨by rw [HNB.out, k1, k3]; rfl, hF⟩
                · cases k2 : decide ((0 : Int) < (m : Int) % hs)
                  · cases k3 : ((m : Int) == n + hs)
                    · go_wp2_with fail
                      go_meet
                      exact ⟨by rw [HNB.out, k1, k2, k3]; rfl, hF⟩
                    · go_wp2_with fail
                      go_meet
                      exact ⟨by rw [HNB.out, k1, k2, k3]; rfl, hF⟩
                  · go_wp2_with fail
                    go_meet
                    exact ⟨by rw [HNB.out, k1, k2]; rfl, hF⟩
              case rest => as_aux_lemma =>
                obtain ⟨rfl, qm⟩ := hcut
                clear g0 g1 hc1 hc2 hc3 hc4 hF
                obtain ⟨qq, g0, g1, hc1, hc2, hc3, hc4⟩ := HF0.out _ qm
                have QM := Lib.hid qq
                clear qq qm HQm HF0
                cases hb : nearB hs n m
                case false =>
                  go_wp2_with fail
                  go_roundw
                  case rel => exact ⟨m + 1, by go_num, by omega, QM⟩
                  case measure => simp [intOf] <;> omega
                by_cases hln : ln = 9
                · have hq1 : (ln != 9) = false := by simpa using hln
                  clear HNR
                  go_wp2_with fail
                  go_roundw
                  case rel => exact ⟨m + 1, by go_num, by omega, QM⟩
                  case measure => simp [intOf] <;> omega
                have hq1 : (ln != 9) = true := by simpa using hln
                by_cases hlm : lm = 9
                · have hq2 : (lm != 9) = false := by simpa using hlm
                  clear HNR
                  go_wp2_with fail
                  go_roundw
                  case rel => exact ⟨m + 1, by go_num, by omega, QM⟩
                  case measure => simp [intOf] <;> omega
                have hq2 : (lm != 9) = true := by simpa using hlm
                have HN2 := Lib.hid (HNR.out hb hln hlm)
                clear HNR
                have hw5 : IntKind.i64.wrap (1 + ln) = 1 + ln := IntWalk.i64_in _ (by omega)
                have hw6 : IntKind.i64.wrap (1 + ln + lm) = 1 + ln + lm := IntWalk.i64_in _ (by omega)
                go_wp2_with fail
                go_quiet (fail)
                have hw7 : IntKind.i64.wrap (di - dj) = di - dj := IntWalk.i64_in _ (by omega)
                have hw8 : IntKind.i64.wrap (dj - di) = dj - di := IntWalk.i64_in _ (by omega)
                have hz := HN2.out
                clear HN2
                rcases hz with ⟨h1, h2⟩ | ⟨h1, h2, h3, h4⟩
                · have hd1 : decide (di < 0) = true := by simpa using h1
                  have hd2 : decide (dj < 0) = true := by simpa using h2
                  have hd3 : decide (0 ≤ di) = false := by simp; omega
                  go_wp2_with fail
                  go_quiet (fail)
                  go_wp2_with fail
                  go_roundw
                  case rel => exact ⟨m + 1, by go_num, by omega, HQK.out _ _ (belowN _ _) QM.out⟩
                  case measure => simp [intOf] <;> omega
                · have hd1 : decide (di < 0) = false := by simp; omega
                  have hd2 : decide (dj < 0) = false := by simp; omega
                  have hd3 : decide (0 ≤ di) = true := by simp; omega
                  have hd4 : decide (1 + ln + lm < di - dj) = false := by simp; omega
                  have hd5 : decide (1 + ln + lm < dj - di) = false := by simp; omega
                  go_wp2_with fail
                  go_quiet (fail)
                  go_wp2_with fail
                  go_roundw
                  case rel => exact ⟨m + 1, by go_num, by omega, HQK.out _ _ (belowN _ _) QM.out⟩
                  case measure => simp [intOf] <;> omega
            · obtain rfl : m = dl.length := by omega
              go_wp2_with fail
              go_roundw
              case rel => exact ⟨n + 1, by go_num, by omega, HQm⟩
              case measure => simp [intOf] <;> omega
        · obtain rfl : n = dl.length := by omega
          clear HDF hdl
          obtain ⟨hP, hX, _⟩ := HQ.out _ HQn.out
          have HP9 := Lib.hid hP
          obtain ⟨x0, x1, x2, _, _, _⟩ := hX.m
          by_cases hC : C1 = 0
          case neg =>
            have hq1 : (C1 != 0) = true := by simpa using hC
            clear hX hP
            go_wp2_with fail
            go_ret
            exact ⟨rfl, (HP.out _ HP9.out).2.2.2⟩
          subst hC
          obtain ⟨f1, f2, f3, f4, f5, f6⟩ := HF.out rfl
          have HW : Hid (WFacts side l D ax ay bx b_y S1 T1) := by
            show WFacts _ _ _ _ _ _ _ _ _
            rw [f5, f6]
            exact way_facts f1 f2 f3 f4 (HDL.out.1 (by simp [f1, f2])) (HDL.out.2 (by simp [f1, f2, f3]))
          have hdo : Hid (dOne side l ax ay bx b_y D = S1) := by
            show dOne _ _ _ _ _ _ _ = _
            rw [f5, dOne]
            simp [f1, f2, f3]
          have HTA := fun v x y h => mTileAt_any side x y A c l v h (by omega)
          have HDI := fun v h => pDist_any side ax ay bx b_y A c l D v h (by omega) hA.out.1 hA.out.2.1 hA.out.2.2.1 hA.out.2.2.2 HDL.out.1
          rw [hdo.out] at HDI
          clear f1 f2 f3 f4 f5 f6 HF HDL hdo hX hP
          obtain ⟨hT0, w1, w2, w3, w4, w5, w6⟩ := HW.out
          have W1 := Lib.hid w1; have W2 := Lib.hid w2; have W4 := Lib.hid w4; have W6 := Lib.hid w6
          clear w1 w2 w4 w6 HW
          go_wp2_with fail
          go_loopw [20, 21] (fun ct i wr => ∃ j : Nat, i = .int .i64 ((j : Int) + 1) ∧ ct = .int .i64 (smAt side D T1 j) ∧ j < T1.length ∧ Hid (Q wr)) (fun _ i _ => T1.length - (intOf i).toNat)
          case atStart => exact ⟨0, rfl, by rw [w3], hT0, HQn⟩
          case round => as_aux_lemma =>
            obtain ⟨j, rfl, rfl, hj, HQj⟩ := hrel
            obtain ⟨hP, hX, _⟩ := HQ.out _ HQj.out
            obtain ⟨x0, x1, x2, _, _, _⟩ := hX.m
            by_cases hlt : j + 1 < T1.length
            · have hjI : (j : Int) + 1 < (T1.length : Int) := by omega
              obtain ⟨q1, q2, q3, q4⟩ := W6.out j hlt
              obtain ⟨r1, r2, rfl, hrlt, ⟨hc1, hc2⟩⟩ := hX.rp.at_ hj
              obtain ⟨r1b, r2b, ed, _, ⟨hc3, hc4⟩⟩ := hX.rp.at_ hlt
              obtain ⟨rfl, rfl⟩ : r1 = r1b ∧ r2 = r2b := by cases ed; exact ⟨rfl, rfl⟩
              clear ed
              generalize T1[j] = pu at *
              generalize T1[j + 1] = pv at *
              obtain ⟨u1, u2⟩ := pu
              obtain ⟨v1, v2⟩ := pv
              simp only at q1 q2 q3 q4 hc1 hc2 hc3 hc4
              have Q1 := Lib.hid q1; have Q4 := Lib.hid q4
              clear q1 q4
              have hq := HQj.out
              have hj2 : (j : Int) < (T1.length : Int) := by omega
              obtain ⟨hw1, hw2, hw3, hw4, hw5, hw6⟩ := idx_facts (j := j) (by omega)
              have hqlt := hX.lt
              have HQA : Hid (∀ v o, Q v → Q (v.alloc o)) := fun v o h => HQK.out _ _ (belowA _ _) h
              clear hP hX
              go_wp2_with fail
              go_cut [22, 23] from 224 to 234 (fun cu cv wx => Two Q u1 u2 v1 v2 cu cv wx)
              case first => as_aux_lemma =>
                have qd := HQK.out _ _ (belowD _) hq
                clear x1 x2
                go_region
                all_goals
                  go_wp2_with fail
                  go_meet
                  first
                    | exact two_a HQA.out qd
                    | exact two_b HQA.out qd
              case rest =>
                obtain ⟨bu, bv, rfl, rfl, pu, pv, qc⟩ := hcut
                clear x0 x1 x2 hc1 hc2 hc3 hc4 hq HQj HQA hw1 hw2 hw3 hw4 hw5 hw6 hqlt hrlt
                obtain ⟨R, HR, HRK, rc⟩ : ∃ R : World → Prop, Hid (∀ v, R v → Q v ∧ Pm bu u1 u2 v ∧ Pm bv v1 v2 v) ∧ Hid (Kep R) ∧ R wc := ⟨fun v => Q v ∧ Pm bu u1 u2 v ∧ Pm bv v1 v2 v, fun _ h => h, fun v v' hb h => ⟨HQK.out _ _ hb h.1, h.2.1.on hb, h.2.2.on hb⟩, qc, pu, pv⟩
                have HRS : Hid (∀ w', R w' → w'.cell? ⟨bg, 0, none⟩ = some (.int .i64 side) ∧ w'.cell? ⟨bg, 1, none⟩ = some (.slice A l.length c) ∧ w'.cell? ⟨bu, 0, none⟩ = some (.int .i64 u1) ∧ w'.cell? ⟨bu, 1, none⟩ = some (.int .i64 u2) ∧ w'.cell? ⟨bv, 0, none⟩ = some (.int .i64 v1) ∧ w'.cell? ⟨bv, 1, none⟩ = some (.int .i64 v2)) := by
                  intro w' h
                  obtain ⟨h1, h2, h3⟩ := HR.out _ h
                  have h4 := (HP.out _ (HQ.out _ h1).1).1
                  exact ⟨h4.c0, h4.c1, h2.c0, h2.c1, h3.c0, h3.c1⟩
                clear pu pv qc
                have RC := Lib.hid rc
                obtain ⟨g0, g1, y0, y1, z0, z1⟩ := HRS.out _ rc
                clear rc
                go_upto_region 28 with fail
                go_cut [258] from 235 to 257 (fun c wx => c = .bool false ∧ R wx)
                case first => as_aux_lemma =>
                  rcases Q1.out with ⟨e1, e2⟩ | ⟨e1, e2⟩ | ⟨e1, e2⟩ | ⟨e1, e2⟩
                  all_goals
                    go_wp2_with fail
                    go_meet
                    exact ⟨rfl, RC.out⟩
                case rest =>
                  obtain ⟨rfl, rc2⟩ := hcut
                  clear g0 g1 y0 y1 z0 z1 RC Q1
                  have hkeep := HRS.out _ rc2
                  obtain ⟨hw3, hw4, hw5⟩ : IntKind.i64.wrap (smAt side D T1 j + 1) = smAt side D T1 j + 1 ∧ IntKind.i64.wrap (smAt side D T1 j + 1 + tileAt side l u1 u2) = smAt side D T1 j + 1 + tileAt side l u1 u2 ∧ IntKind.i64.wrap (smAt side D T1 j + 1 + tileAt side l u1 u2 + tileAt side l v1 v2) = smAt side D T1 j + 1 + tileAt side l u1 u2 + tileAt side l v1 v2 := ⟨i64_small (by omega) (by omega), i64_small (by omega) (by omega), i64_small (by omega) (by omega)⟩
                  have HTu := fun v h => HTA v u1 u2 h
                  have HTv := fun v h => HTA v v1 v2 h
                  clear q2 q3
                  generalize smAt side D T1 j = sj at hw3 hw4 hw5 Q4 ⊢
                  generalize tileAt side l u1 u2 = tu at hw3 hw4 hw5 Q4 HTu
                  generalize tileAt side l v1 v2 = tv at hw3 hw4 hw5 Q4 HTv
                  go_wp2_with fail
                  have q0 := HRK.out _ _ (belowD _) rc2
                  have hkeep := HRS.out _ q0
                  clear rc2
                  go_region_held3 (fun w' => w'.cell? ⟨bg, 0, none⟩ = some (.int .i64 side) ∧ w'.cell? ⟨bg, 1, none⟩ = some (.slice A l.length c) ∧ w'.cell? ⟨bu, 0, none⟩ = some (.int .i64 u1) ∧ w'.cell? ⟨bu, 1, none⟩ = some (.int .i64 u2) ∧ w'.cell? ⟨bv, 0, none⟩ = some (.int .i64 v1) ∧ w'.cell? ⟨bv, 1, none⟩ = some (.int .i64 v2))
                    (first
                      | (with_reducible exact hkeep)
                      | go_keep)
                    (first
                      | (go_at_call 16; have _c := q1; clear _c; refine (HTv _ (HP.out _ (HQ.out _ (HR.out _ q1).1).1).1.ri).mono ?_; rintro e v2' ⟨rfl, hb⟩; clear hkeep; have q2 := HRK.out _ _ hb q1; have hkeep := HRS.out _ q2; clear hb)
                      | (go_at_call 16; have _c := q0; clear _c; refine (HTu _ (HP.out _ (HQ.out _ (HR.out _ q0).1).1).1.ri).mono ?_; rintro e v1' ⟨rfl, hb⟩; clear hkeep; have q1 := HRK.out _ _ hb q0; have hkeep := HRS.out _ q1; clear hb))
                  all_goals
                    have QE := Lib.hid (HR.out _ q2).1
                    clear hkeep q2
                    go_wp2_with fail
                    go_roundw
                    case rel => exact ⟨j + 1, by go_num, by rw [← Q4.out], by omega, QE⟩
                    case measure => simp [intOf] <;> omega
            · have hjl : j + 1 = T1.length := by omega
              have hjx : T1[j] = ⟨bx, b_y⟩ := by
                have e : j = T1.length - 1 := by omega
                subst e
                exact W2.out
              have E4 : smAt side D T1 j = S1 := by
                have e : j = T1.length - 1 := by omega
                rw [e]; exact W4.out
              obtain ⟨r1, r2, rfl, hrlt, ⟨hc1, hc2⟩⟩ := hX.rp.at_ hT0
              obtain ⟨r1b, r2b, ed, _, ⟨hc3, hc4⟩⟩ := hX.rp.at_ hj
              obtain ⟨rfl, rfl⟩ : r1 = r1b ∧ r2 = r2b := by cases ed; exact ⟨rfl, rfl⟩
              clear ed
              rw [W1.out] at hc1 hc2
              rw [hjx] at hc3 hc4
              simp only [Nat.zero_mul, Nat.add_zero] at hc1 hc2 hc3 hc4
              generalize smAt side D T1 j = sj at E4 ⊢
              subst E4
              have hjI : decide ((j : Int) + 1 < (T1.length : Int)) = false := by simp; omega
              have hT1 : (0 : Int) < (T1.length : Int) := by omega
              have hT2 : (j : Int) < (T1.length : Int) := by omega
              have he : (T1.length : Int) - 1 = (j : Int) := by omega
              obtain ⟨_, _, hw3, hw4, hw5, hw6⟩ := idx_facts (j := j) (by omega)
              have hqlt := hX.lt
              have hg := (HP.out _ hP).1; have ha := (HP.out _ hP).2.1; have hb_ := (HP.out _ hP).2.2.1
              obtain ⟨R, HRS, HRQ, HRK, q0⟩ : ∃ R : World → Prop, Hid (∀ w', R w' → w'.cell? ⟨qx, 0, none⟩ = some (.slice (some ⟨r1, r2, none⟩) T1.length k) ∧ w'.cell? ⟨qx, 1, none⟩ = some (.int .i64 sj) ∧ w'.cell? ⟨bg, 0, none⟩ = some (.int .i64 side) ∧ w'.cell? ⟨bg, 1, none⟩ = some (.slice A l.length c) ∧ w'.cell? ⟨ba, 0, none⟩ = some (.int .i64 ax) ∧ w'.cell? ⟨ba, 1, none⟩ = some (.int .i64 ay) ∧ w'.cell? ⟨bb, 0, none⟩ = some (.int .i64 bx) ∧ w'.cell? ⟨bb, 1, none⟩ = some (.int .i64 b_y) ∧ w'.cell? ⟨r1, r2, none⟩ = some (.int .i64 ax) ∧ w'.cell? ⟨r1, r2 + 1, none⟩ = some (.int .i64 ay) ∧ w'.cell? ⟨r1, r2 + j * 2, none⟩ = some (.int .i64 bx) ∧ w'.cell? ⟨r1, r2 + j * 2 + 1, none⟩ = some (.int .i64 b_y)) ∧ Hid (∀ v, R v → Q v) ∧ Hid (Kep R) ∧ R wr :=
                ⟨fun v => Below wr.heap.size wr v, fun v h => ⟨(h.cell (p := ⟨qx, 0, none⟩) hqlt).trans x0, (h.cell (p := ⟨qx, 1, none⟩) hqlt).trans x1, (h.cell (p := ⟨bg, 0, none⟩) hg.lt).trans hg.c0, (h.cell (p := ⟨bg, 1, none⟩) hg.lt).trans hg.c1, (h.cell (p := ⟨ba, 0, none⟩) ha.lt).trans ha.c0, (h.cell (p := ⟨ba, 1, none⟩) ha.lt).trans ha.c1, (h.cell (p := ⟨bb, 0, none⟩) hb_.lt).trans hb_.c0, (h.cell (p := ⟨bb, 1, none⟩) hb_.lt).trans hb_.c1, (h.cell (p := ⟨r1, r2, none⟩) hrlt).trans hc1, (h.cell (p := ⟨r1, r2 + 1, none⟩) hrlt).trans hc2, (h.cell (p := ⟨r1, r2 + j * 2, none⟩) hrlt).trans hc3, (h.cell (p := ⟨r1, r2 + j * 2 + 1, none⟩) hrlt).trans hc4⟩, fun v h => HQK.out _ _ h HQj.out, fun v v' hb h => h.trans (hb.mono h.size), Below.refl _ _⟩
              have R0 := Lib.hid q0
              clear hg ha hb_ x1 x2 hc1 hc2 hc3 hc4 hjx hP hX hlt hjl hqlt hrlt
              go_wp2_with fail
              have q0 := HRK.out _ _ (belowD _) R0.out
              have hkeep := HRS.out _ q0
              clear R0 x0
              go_region_held3 (fun w' => w'.cell? ⟨qx, 0, none⟩ = some (.slice (some ⟨r1, r2, none⟩) T1.length k) ∧ w'.cell? ⟨qx, 1, none⟩ = some (.int .i64 sj) ∧ w'.cell? ⟨bg, 0, none⟩ = some (.int .i64 side) ∧ w'.cell? ⟨bg, 1, none⟩ = some (.slice A l.length c) ∧ w'.cell? ⟨ba, 0, none⟩ = some (.int .i64 ax) ∧ w'.cell? ⟨ba, 1, none⟩ = some (.int .i64 ay) ∧ w'.cell? ⟨bb, 0, none⟩ = some (.int .i64 bx) ∧ w'.cell? ⟨bb, 1, none⟩ = some (.int .i64 b_y) ∧ w'.cell? ⟨r1, r2, none⟩ = some (.int .i64 ax) ∧ w'.cell? ⟨r1, r2 + 1, none⟩ = some (.int .i64 ay) ∧ w'.cell? ⟨r1, r2 + j * 2, none⟩ = some (.int .i64 bx) ∧ w'.cell? ⟨r1, r2 + j * 2 + 1, none⟩ = some (.int .i64 b_y))
                (first
                  | (with_reducible exact hkeep)
                  | go_keep)
                (first | (go_at_call 14; have _c := q0; clear _c; refine (HDI _ (HP.out _ (HQ.out _ (HRQ.out _ q0)).1).1.ri).mono ?_; rintro e v1' ⟨rfl, hb⟩; clear hkeep; have q1 := HRK.out _ _ hb q0; have hkeep := HRS.out _ q1; clear hb))
              all_goals
                have QE := Lib.hid (HRQ.out _ q1)
                clear hkeep q1 q0
                go_wp2_with fail
                go_ret
                exact ⟨rfl, (HP.out _ (HQ.out _ QE.out).1).2.2.2⟩
end Go.Proofs.Ytmjbefjkkncjlaa
