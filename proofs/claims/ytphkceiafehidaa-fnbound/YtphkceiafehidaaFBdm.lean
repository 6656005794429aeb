/- The law on tables, walked. -/
import Derived.Test.YtphkceiafehidaaNSe
import Derived.Test.YtphkceiafehidaaNSb
import Derived.Test.YtphkceiafehidaaWyH
import Derived.Deep.CutRange
import Derived.Deep.RegionWith
import Derived.Deep.RegionHeld3
namespace Go.Proofs.Ytphkceiafehidaa
open Go.RowKit
set_option linter.unusedVariables false
set_option linter.unusedSimpArgs false

set_option maxRecDepth 100000 in
set_option maxHeartbeats 12000000 in
theorem fnBound_walk (a0 : Option Addr) (len0 cap0 : Nat) (a1 : Option Addr) (len1 cap1 : Nat) (w : World) (i0 : BytesIn w w.heap.size a0 len0) (i1 : BytesIn w w.heap.size a1 len1) :
    Calls Try.prog 4 #[.slice a0 len0 cap0, .slice a1 len1 cap1] w fun e w' => e = .returned (.bool true) ∧ Below w.heap.size w w' := by
  by_cases h0 : 1048576 < (len0 : Int)
  · clear i0 i1
    go_enter Try.func4, Try.ntmps4
    go_wp2_with fail
    go_ret
    exact ⟨rfl, Below.refl _ _⟩
  have hd0 : decide (1048576 < (len0 : Int)) = false := by simpa using h0
  by_cases h1 : 1048576 < (len1 : Int)
  · clear i0 i1 h0
    go_enter Try.func4, Try.ntmps4
    go_wp2_with fail
    go_ret
    exact ⟨rfl, Below.refl _ _⟩
  have hd1 : decide (1048576 < (len1 : Int)) = false := by simpa using h1
  have I0 := Lib.hid i0
  have I1 := Lib.hid i1
  clear i0 i1
  go_enter Try.func4, Try.ntmps4
  go_wp2_with fail
  refine (drawBake_any a0 len0 cap0 w (by omega) I0.out).mono ?_
  rintro e w1 ⟨side, A, c, l, bm, cb, ms, rfl, hsm, hml, hmp, ho, hom, hb1⟩
  have hl := hsm.2.2.1
  have HMP : Hid (∀ p ∈ ms, In64 p.x ∧ In64 p.y) := fun p hp => by have := hmp p hp; unfold PlIn at this; exact ⟨⟨by omega, by omega⟩, ⟨by omega, by omega⟩⟩
  clear I0 hsm hmp
  go_wp2_with fail
  have GG : Gm w1.heap.size side A c l (w1.alloc (.cells #[.int .i64 side, .slice A l.length c] 25)) := Gm.made 25 ho.ri
  have RM : RPl (w1.alloc (.cells #[.int .i64 side, .slice A l.length c] 25)) (w1.alloc (.cells #[.int .i64 side, .slice A l.length c] 25)).heap.size (some ⟨bm, 0, none⟩) ms := hom.r.below' (belowA _ _)
  have HBW : Below w.heap.size w (w1.alloc (.cells #[.int .i64 side, .slice A l.length c] 25)) := bAnd hb1 (belowA _ _)
  generalize (w1.alloc (.cells #[.int .i64 side, .slice A l.length c] 25)) = W at GG RM HBW ⊢
  generalize w1.heap.size = bg at GG ⊢
  clear hb1 ho hom
  obtain ⟨P, HPd, HK, HP, pW⟩ : ∃ P : World → Prop, Hid (∀ v, P v = Below W.heap.size W v) ∧ Hid (Kep P) ∧ Hid (∀ w', P w' → Gm bg side A c l w' ∧ RPl w' w'.heap.size (some ⟨bm, 0, none⟩) ms ∧ Below w.heap.size w w') ∧ P W :=
    ⟨fun w' => Below W.heap.size W w', fun _ => rfl, fun v v' hb h => h.trans (hb.mono h.size), fun v h => ⟨GG.on h, RM.below' h, bAnd HBW h⟩, Below.refl _ _⟩
  have HPA : Hid (∀ v o, P v → P (v.alloc o)) := fun v o h => HK.out _ _ (belowA v o) h
  have HPS : Hid (∀ v q i x, P v → W.heap.size ≤ q → P (v.setCell ⟨q, i, none⟩ x)) := by
    intro v q i x h hq
    rw [HPd.out] at h ⊢
    exact h.setCell hq _
  have HPZ : Hid (∀ v, P v → W.heap.size ≤ v.heap.size) := by
    intro v h
    rw [HPd.out] at h
    exact h.size
  have HS : Hid (∀ w', P w' → w'.cell? ⟨bg, 0, none⟩ = some (.int .i64 side) ∧ w'.cell? ⟨bg, 1, none⟩ = some (.slice A l.length c)) := by
    intro w' h
    obtain ⟨h1, _⟩ := HP.out w' h
    exact ⟨h1.c0, h1.c1⟩
  clear GG RM HBW
  obtain ⟨D0, hD⟩ := isb_any side l ms
  have HI : Hid (∀ wr, P wr → Calls Try.prog 19 #[.agg #[.int .i64 side, .slice A l.length c], .slice (some ⟨bm, 0, none⟩) ms.length cb] wr (fun e w' => TRead wr w' (bakeM side l ms, bakeD side l ms D0) e)) := fun wr p => (pBake_any side A c l bm 0 cb ms D0 wr (HP.out _ p).1.ri (HP.out _ p).2.1 (by omega) (by omega) (fun i h => HMP.out _ (List.getElem_mem h)) hD).mono fun _ _ h => TOut.rd (r := (bakeM side l ms, bakeD side l ms D0)) h
  have HM : Hid (∀ wr, P wr → Calls Try.prog 20 #[.agg #[.int .i64 side, .slice A l.length c], .slice (some ⟨bm, 0, none⟩) ms.length cb] wr (fun e w' => TRead wr w' (bakeM side l ms, bakeD side l ms D0) e)) := fun wr p => (mBake_any side A c l bm 0 cb ms D0 wr (HP.out _ p).1.ri (HP.out _ p).2.1 (by omega) (by omega) hD).mono fun _ _ h => TOut.rd (r := (bakeM side l ms, bakeD side l ms D0)) h
  have hF := bake_facts hD
  have hTl := bakeM_len side l ms
  have hLl := bakeD_len hD
  unfold TRead at HI HM
  clear hD
  generalize bakeM side l ms = T1 at *
  generalize bakeD side l ms D0 = L1 at *
  simp only at HI HM
  have HF := Lib.hid hF
  have HTF : Hid (∀ i (h : i < T1.length), In64 T1[i].x ∧ In64 T1[i].y) := fun i h => HMP.out _ (HF.out.2.1 _ (List.getElem_mem h))
  clear hF HMP
  obtain ⟨k0, k1⟩ := HS.out _ pW
  go_cut [7, 8] from 30 to 35 (fun cx cy wx => Pair P T1 L1 cx cy wx)
  case first => as_aux_lemma =>
    clear k0 k1
    have p0 := HK.out _ _ (belowD W) pW
    have pZ := HK.out _ _ (bAnd (belowA W (.cells #[.slice none 0 0, .slice none 0 0] 45)) (belowD _)) pW
    have pZZ := HK.out _ _ (bAnd (bAnd (belowA W (.cells #[.slice none 0 0, .slice none 0 0] 45)) (belowA _ (.cells #[.slice none 0 0, .slice none 0 0] 45))) (belowD _)) pW
    have zZ := (Zb.made (w0 := W) (Nat.le_refl W.heap.size)).on (belowD _)
    have zZ2 := ((Zb.made (w0 := W) (Nat.le_refl W.heap.size)).on (belowA _ (.cells #[.slice none 0 0, .slice none 0 0] 45))).on (belowD _)
    have zZ3 := (Zb.made (w0 := W) (w := W.alloc (.cells #[.slice none 0 0, .slice none 0 0] 45)) (by simp)).on (belowD _)
    rw [alloc_size] at zZ3
    have hkeep := HS.out _ p0
    go_region_held3 (fun w' => w'.cell? ⟨bg, 0, none⟩ = some (.int .i64 side) ∧ w'.cell? ⟨bg, 1, none⟩ = some (.slice A l.length c))
      (first
        | (with_reducible exact hkeep)
        | (refine HS.out _ ?_; repeat (first | (with_reducible exact p2) | (with_reducible exact p1) | (with_reducible exact pZZ) | (with_reducible exact pZ) | (with_reducible exact p0) | (refine HPS.out _ _ _ _ ?_ (by first | (with_reducible exact hqx) | (with_reducible exact hqy) | exact Nat.le_refl _ | exact hv2 | (simp; omega))) | (refine HPA.out _ _ ?_))))
      (first
        | (go_at_call 20; have _c := p1; clear _c; refine (HM.out v1 p1).mono ?_; rintro e v2 ⟨Y, k', D', d', rfl, ry, ryc, oy, _, hb⟩; have oy := Lib.hid oy; have hvs := Lib.hid hb.size; clear hkeep; have hb12 := hb; have p2 := HK.out _ _ hb12 p1; have hkeep := HS.out _ p2; have rx2 := rx.below' hb12; have rxc2 := rxc.go hb12; have hv2 := HPZ.out _ p2; try (have gx := Lib.hid (oy.out.off_lo zx.lt.2); have zx2 := zx.on hb12; obtain ⟨s0, s1, t0, t1⟩ := zx2.m; have hzx := zx2.lt.2; have hqx := zx2.lt.1); try (have gy := Lib.hid (oy.out.off_lo zy.lt.2); have zy2 := zy.on hb12; obtain ⟨u0, u1, y0, y1⟩ := zy2.m; have hzy := zy2.lt.2; have hqy := zy2.lt.1); clear hb)
        | (go_at_call 20; have _c := p1; clear _c; refine (HM.out (v1.alloc (.cells #[.slice none 0 0, .slice none 0 0] 45)) (HK.out _ _ (belowA _ _) p1)).mono ?_; rintro e v2 ⟨Y, k', D', d', rfl, ry, ryc, oy, _, hb⟩; have oy := Lib.hid oy; have hvs := Lib.hid hb.size; clear hkeep; have hb12 := bAnd (belowA _ _) hb; have p2 := HK.out _ _ hb12 p1; have hkeep := HS.out _ p2; have rx2 := rx.below' hb12; have rxc2 := rxc.go hb12; have hv1 := HPZ.out _ p1; have hv2 := HPZ.out _ p2; first | (have gx := Lib.hid (oy.out.off_lo (Nat.lt_of_lt_of_le zx.lt.2 (by simp))); have fy := Lib.hid (ox.out.off_hi (Nat.le_refl _)); have gy := Lib.hid (oy.out.off_lo (q := v1.heap.size) (by simp)); have zx2 := zx.on hb12; have zy2 := (Zb.made (w0 := W) hv1).on hb; have hxy := Nat.lt_of_lt_of_le zx.lt.2 (Nat.le_refl _); obtain ⟨s0, s1, t0, t1⟩ := zx2.m; have hzx := zx2.lt.2; have hqx := zx2.lt.1; obtain ⟨u0, u1, y0, y1⟩ := zy2.m; have hzy := zy2.lt.2; have hqy := zy2.lt.1; have hn1 := Nat.ne_of_lt hxy; have hn2 := Nat.ne_of_gt hxy; have hne := Lib.hid hn1) | (have fx := Lib.hid (ox.out.off_hi (Nat.le_refl _)); have gx := Lib.hid (oy.out.off_lo (q := v1.heap.size) (by simp)); have zx2 := (Zb.made (w0 := W) hv1).on hb; obtain ⟨s0, s1, t0, t1⟩ := zx2.m; have hzx := zx2.lt.2; have hqx := zx2.lt.1); clear hb)
        | (go_at_call 20; have _c := p1; clear _c; refine (HM.out ((v1.alloc (.cells #[.slice none 0 0, .slice none 0 0] 45)).alloc (.cells #[.slice none 0 0, .slice none 0 0] 45)) (HK.out _ _ (bAnd (belowA _ _) (belowA _ _)) p1)).mono ?_; rintro e v2 ⟨Y, k', D', d', rfl, ry, ryc, oy, _, hb⟩; have oy := Lib.hid oy; have hvs := Lib.hid hb.size; clear hkeep; have hb12 := bAnd (bAnd (belowA _ _) (belowA _ _)) hb; have p2 := HK.out _ _ hb12 p1; have hkeep := HS.out _ p2; have rx2 := rx.below' hb12; have rxc2 := rxc.go hb12; have hv1 := HPZ.out _ p1; have hv2 := HPZ.out _ p2; have fx := Lib.hid (ox.out.off_hi (Nat.le_refl _)); have gx := Lib.hid (oy.out.off_lo (q := v1.heap.size) (by simp; omega)); have fy := Lib.hid (ox.out.off_hi (Nat.le_succ _)); have gy := Lib.hid (oy.out.off_lo (q := v1.heap.size + 1) (by simp)); have hne := Lib.hid (Nat.ne_of_lt (Nat.lt_succ_self v1.heap.size)); have zx2 := ((Zb.made (w0 := W) hv1).on (belowA _ (.cells #[.slice none 0 0, .slice none 0 0] 45))).on hb; have zy2 := (Zb.made (w0 := W) (w := v1.alloc (.cells #[.slice none 0 0, .slice none 0 0] 45)) (by simp; omega)).on hb; rw [alloc_size] at zy2; obtain ⟨s0, s1, t0, t1⟩ := zx2.m; have hzx := zx2.lt.2; have hqx := zx2.lt.1; obtain ⟨u0, u1, y0, y1⟩ := zy2.m; have hzy := zy2.lt.2; have hqy := zy2.lt.1; clear hb)
        | (go_at_call 19; refine (HI.out W.drew p0).mono ?_; rintro e v1 ⟨X, k, D, d, rfl, rx, rxc, ox, hR, hb⟩; have hR := Lib.hid hR; have ox := Lib.hid ox; clear hkeep; have p1 := HK.out _ _ hb p0; have hkeep := HS.out _ p1; clear hb)
        | (go_at_call 19; refine (HI.out (W.alloc (.cells #[.slice none 0 0, .slice none 0 0] 45)).drew pZ).mono ?_; rintro e v1 ⟨X, k, D, d, rfl, rx, rxc, ox, hR, hb⟩; have hR := Lib.hid hR; have ox := Lib.hid ox; clear hkeep; have p1 := HK.out _ _ hb pZ; have hkeep := HS.out _ p1; have zx := zZ.on hb; have fx := Lib.hid (ox.out.off_lo zZ.lt.2); clear hb)
        | (go_at_call 19; refine (HI.out ((W.alloc (.cells #[.slice none 0 0, .slice none 0 0] 45)).alloc (.cells #[.slice none 0 0, .slice none 0 0] 45)).drew pZZ).mono ?_; rintro e v1 ⟨X, k, D, d, rfl, rx, rxc, ox, hR, hb⟩; have hR := Lib.hid hR; have ox := Lib.hid ox; clear hkeep; have p1 := HK.out _ _ hb pZZ; have hkeep := HS.out _ p1; have zx := zZ2.on hb; have zy := zZ3.on hb; have fx := Lib.hid (ox.out.off_lo zZ2.lt.2); have fy := Lib.hid (ox.out.off_lo zZ3.lt.2); have hne := Lib.hid (Nat.ne_of_lt (Nat.lt_succ_self W.heap.size)); clear hb))
    all_goals
      clear hkeep
      go_wp2_with fail
      go_meet
      first
        | (with_reducible exact pair_a1 HPA.out p2 rx2 rxc2 ry ryc hR.out)
        | (with_reducible exact pair_a2 HPA.out p2 rx2 rxc2 ry ryc hR.out)
        | (with_reducible exact pair_b1 HPA.out HPS.out p2 rx2 rxc2 ry ryc hR.out zx2 fx.out gx.out)
        | (with_reducible exact pair_b2 HPA.out HPS.out p2 rx2 rxc2 ry ryc hR.out zx2 fx.out gx.out)
        | (with_reducible exact pair_c1 HPS.out p2 rx2 rxc2 ry ryc hR.out zx2 fx.out gx.out zy2 fy.out gy.out hne.out)
        | (with_reducible exact pair_c1 HPS.out p2 rx2 rxc2 ry ryc hR.out zy2 fy.out gy.out zx2 fx.out gx.out hne.out.symm)
        | (with_reducible exact pair_c2 HPS.out p2 rx2 rxc2 ry ryc hR.out zx2 fx.out gx.out zy2 fy.out gy.out hne.out)
        | (with_reducible exact pair_c2 HPS.out p2 rx2 rxc2 ry ryc hR.out zy2 fy.out gy.out zx2 fx.out gx.out hne.out.symm)
  case rest =>
    obtain ⟨qx, qy, X, k, D, d, Y, k', D', d', rfl, rfl, pc, mx, my, hRx, hdx⟩ := hcut
    clear HM HI k0 k1 pW HPA HPS HPZ HPd
    have HRX := Lib.hid hRx
    go_wp2_with fail
    refine (drawBound_any a1 len1 cap1 wc (by omega) (bytes_more I1.out (HP.out _ pc).2.2)).mono ?_
    rintro e w2 ⟨so, Ao, co, lo, AM, cM, T2, AD, cD, L2, px, py, ux, uy, rfl, hsm2, hT2, hL2, hpp, hRw, hcD, ro, rM, rD, hb⟩
    have hlo := hsm2.2.2.1
    have hT24 := hT2.1
    have HT2 : Hid (∀ i (h : i < T2.length), In64 T2[i].x ∧ In64 T2[i].y) := fun i h => by have := hT2.2 _ (List.getElem_mem h); unfold PlIn at this; exact ⟨⟨by omega, by omega⟩, ⟨by omega, by omega⟩⟩
    have hIG : Hid ((In64 px ∧ In64 py) ∧ In64 ux ∧ In64 uy) := by unfold PlIn at hpp; exact ⟨⟨⟨by omega, by omega⟩, ⟨by omega, by omega⟩⟩, ⟨by omega, by omega⟩, ⟨by omega, by omega⟩⟩
    replace pc := HK.out _ _ hb pc; replace mx := mx.on hb; replace my := my.on hb
    have hbw : Below w2.heap.size w2 ((((w2.alloc (.cells #[.int .i64 so, .slice Ao lo.length co] 25)).alloc (.cells #[.slice AM T2.length cM, .slice AD L2.length cD] 45)).alloc (.cells #[.int .i64 px, .int .i64 py] 27)).alloc (.cells #[.int .i64 ux, .int .i64 uy] 27)) := bAnd (belowA _ _) (bAnd (belowA _ _) (bAnd (belowA _ _) (belowA _ _)))
    replace pc := HK.out _ _ hbw pc; replace mx := mx.on hbw; replace my := my.on hbw
    have GO : Gm w2.heap.size so Ao co lo ((((w2.alloc (.cells #[.int .i64 so, .slice Ao lo.length co] 25)).alloc (.cells #[.slice AM T2.length cM, .slice AD L2.length cD] 45)).alloc (.cells #[.int .i64 px, .int .i64 py] 27)).alloc (.cells #[.int .i64 ux, .int .i64 uy] 27)) := (Gm.made 25 ro).on (bAnd (belowA _ _) (bAnd (belowA _ _) (belowA _ _)))
    have TU : Tm (w2.heap.size + 1) AM cM T2 AD cD L2 ((((w2.alloc (.cells #[.int .i64 so, .slice Ao lo.length co] 25)).alloc (.cells #[.slice AM T2.length cM, .slice AD L2.length cD] 45)).alloc (.cells #[.int .i64 px, .int .i64 py] 27)).alloc (.cells #[.int .i64 ux, .int .i64 uy] 27)) := by
      have := (Tm.made (w := (w2.alloc (.cells #[.int .i64 so, .slice Ao lo.length co] 25))) (c := cM) (d := cD) 45 (rM.below' (belowA _ _)) (rD.go (belowA _ _))).on (bAnd (belowA _ (.cells #[.int .i64 px, .int .i64 py] 27)) (belowA _ (.cells #[.int .i64 ux, .int .i64 uy] 27)))
      rw [alloc_size] at this
      exact this
    have PP : Pm (w2.heap.size + 1 + 1) px py ((((w2.alloc (.cells #[.int .i64 so, .slice Ao lo.length co] 25)).alloc (.cells #[.slice AM T2.length cM, .slice AD L2.length cD] 45)).alloc (.cells #[.int .i64 px, .int .i64 py] 27)).alloc (.cells #[.int .i64 ux, .int .i64 uy] 27)) := by
      have := (Pm.made (w := ((w2.alloc (.cells #[.int .i64 so, .slice Ao lo.length co] 25)).alloc (.cells #[.slice AM T2.length cM, .slice AD L2.length cD] 45))) px py 27).on (belowA _ (.cells #[.int .i64 ux, .int .i64 uy] 27))
      rw [alloc_size, alloc_size] at this
      exact this
    have PQ : Pm (w2.heap.size + 1 + 1 + 1) ux uy ((((w2.alloc (.cells #[.int .i64 so, .slice Ao lo.length co] 25)).alloc (.cells #[.slice AM T2.length cM, .slice AD L2.length cD] 45)).alloc (.cells #[.int .i64 px, .int .i64 py] 27)).alloc (.cells #[.int .i64 ux, .int .i64 uy] 27)) := by
      have := Pm.made (w := (((w2.alloc (.cells #[.int .i64 so, .slice Ao lo.length co] 25)).alloc (.cells #[.slice AM T2.length cM, .slice AD L2.length cD] 45)).alloc (.cells #[.int .i64 px, .int .i64 py] 27))) ux uy 27
      rw [alloc_size, alloc_size, alloc_size] at this
      exact this
    clear hb hbw ro rM rD hsm2 hT2 hpp
    go_wp2_with fail
    generalize ((((w2.alloc (.cells #[.int .i64 so, .slice Ao lo.length co] 25)).alloc (.cells #[.slice AM T2.length cM, .slice AD L2.length cD] 45)).alloc (.cells #[.int .i64 px, .int .i64 py] 27)).alloc (.cells #[.int .i64 ux, .int .i64 uy] 27)) = W5 at GO TU PP PQ pc mx my ⊢
    generalize w2.heap.size + 1 + 1 + 1 = bq at PQ ⊢
    generalize w2.heap.size + 1 + 1 = bp at PP ⊢
    generalize w2.heap.size + 1 = bu at TU ⊢
    generalize w2.heap.size = bo at GO ⊢
    obtain ⟨D2, hD2⟩ := isb_any so lo T2
    obtain ⟨D3, hD3⟩ := gdist_any so lo px py
    have HLE := Lib.hid (bound_le_dist (T := T2) (L := L2) (bx := ux) (b_y := uy) hD2 hD3)
    have N1 : Hid (∀ v, RI v v.heap.size Ao lo → RPl v v.heap.size AM T2 → RI v v.heap.size AD L2 → Calls Try.prog 22 #[.agg #[.int .i64 so, .slice Ao lo.length co], .agg #[.slice AM T2.length cM, .slice AD L2.length cD], .agg #[.int .i64 px, .int .i64 py], .agg #[.int .i64 ux, .int .i64 uy]] v fun e w' => e = .returned (.int .i64 (boundOut so lo T2 L2 px py ux uy D2)) ∧ Below v.heap.size v w') := fun v h h2 h3 => pBound_gen so Ao co lo AM cM T2 AD cD L2 px py ux uy D2 v h h2 h3 (by omega) (by omega) (by omega) hcD hIG.out.1.1 hIG.out.1.2 hIG.out.2.1 hIG.out.2.2 HT2.out hD2 hRw
    have N2 : Hid (∀ v, RI v v.heap.size Ao lo → RPl v v.heap.size AM T2 → RI v v.heap.size AD L2 → Calls Try.prog 23 #[.agg #[.int .i64 so, .slice Ao lo.length co], .agg #[.slice AM T2.length cM, .slice AD L2.length cD], .agg #[.int .i64 px, .int .i64 py], .agg #[.int .i64 ux, .int .i64 uy]] v fun e w' => e = .returned (.int .i64 (boundOut so lo T2 L2 px py ux uy D2)) ∧ Below v.heap.size v w') := fun v h h2 h3 => mBound_gen so Ao co lo AM cM T2 AD cD L2 px py ux uy D2 v h h2 h3 (by omega) (by omega) (by omega) hD2 hRw
    have N3 : Hid (∀ v, RI v v.heap.size Ao lo → Calls Try.prog 16 #[.agg #[.int .i64 so, .slice Ao lo.length co], .agg #[.int .i64 px, .int .i64 py], .agg #[.int .i64 ux, .int .i64 uy]] v fun e w' => e = .returned (.int .i64 (dOne so lo px py ux uy D3)) ∧ Below v.heap.size v w') := fun v h => mDist_any so px py ux uy Ao co lo D3 v h (by omega) hD3
    clear hD2 hD3 HT2 hRw hcD
    generalize boundOut so lo T2 L2 px py ux uy D2 = n1 at *
    generalize dOne so lo px py ux uy D3 = n3 at *
    refine (N1.out _ GO.ri TU.rp TU.ri).mono ?_
    rintro e w6 ⟨rfl, hb⟩
    replace pc := HK.out _ _ hb pc; replace mx := mx.on hb; replace my := my.on hb; replace GO := GO.on hb; replace TU := TU.on hb; replace PP := PP.on hb; replace PQ := PQ.on hb
    clear hb N1
    obtain ⟨Q, HQK, HQ, q0⟩ : ∃ Q : World → Prop, Hid (Kep Q) ∧ Hid (∀ v, Q v → P v ∧ Tm qx X k T1 D d L1 v ∧ Tm qy Y k' T1 D' d' L1 v ∧ Gm bo so Ao co lo v ∧ Tm bu AM cM T2 AD cD L2 v ∧ Pm bp px py v ∧ Pm bq ux uy v) ∧ Q w6 :=
      ⟨fun v => Below w6.heap.size w6 v, fun v v' hb h => h.trans (hb.mono h.size), fun v h => ⟨HK.out _ _ h pc, mx.on h, my.on h, GO.on h, TU.on h, PP.on h, PQ.on h⟩, Below.refl _ _⟩
    have HQS : Hid (∀ w', Q w' → w'.cell? ⟨qx, 0, none⟩ = some (.slice X T1.length k) ∧ w'.cell? ⟨qx, 1, none⟩ = some (.slice D L1.length d) ∧ w'.cell? ⟨qy, 0, none⟩ = some (.slice Y T1.length k') ∧ w'.cell? ⟨qy, 1, none⟩ = some (.slice D' L1.length d') ∧ w'.cell? ⟨bo, 0, none⟩ = some (.int .i64 so) ∧ w'.cell? ⟨bo, 1, none⟩ = some (.slice Ao lo.length co) ∧ w'.cell? ⟨bu, 0, none⟩ = some (.slice AM T2.length cM) ∧ w'.cell? ⟨bu, 1, none⟩ = some (.slice AD L2.length cD) ∧ w'.cell? ⟨bp, 0, none⟩ = some (.int .i64 px) ∧ w'.cell? ⟨bp, 1, none⟩ = some (.int .i64 py) ∧ w'.cell? ⟨bq, 0, none⟩ = some (.int .i64 ux) ∧ w'.cell? ⟨bq, 1, none⟩ = some (.int .i64 uy)) := by
      intro w' h
      obtain ⟨_, h1, h2, h3, h4, h5, h6⟩ := HQ.out w' h
      exact ⟨h1.m.c0, h1.m.c1, h2.m.c0, h2.m.c1, h3.c0, h3.c1, h4.m.c0, h4.m.c1, h5.c0, h5.c1, h6.c0, h6.c1⟩
    clear GO TU PP PQ pc mx my
    obtain ⟨c0, c1, c2, c3, c4, c5, c6, c7, c8, c9, c10, c11⟩ := HQS.out _ q0
    go_wp2_with fail
    refine (lwPlaces_any X Y k k' T1 w6 (HQ.out _ q0).2.1.rp (HQ.out _ q0).2.2.1.rp (by omega)).mono ?_
    rintro e v1 ⟨rfl, hb⟩
    have q1 := HQK.out _ _ hb q0
    clear hb q0 c0 c1 c2 c3 c4 c5 c6 c7 c8 c9 c10 c11
    obtain ⟨c0, c1, c2, c3, c4, c5, c6, c7, c8, c9, c10, c11⟩ := HQS.out _ q1
    go_wp2_with fail
    refine (lwNums_any D D' d d' L1 v1 (HQ.out _ q1).2.1.ri (HQ.out _ q1).2.2.1.ri (by omega)).mono ?_
    rintro e v2 ⟨rfl, hb⟩
    have q2 := HQK.out _ _ hb q1
    clear hb q1 c0 c1 c2 c3 c4 c5 c6 c7 c8 c9 c10 c11
    obtain ⟨c0, c1, c2, c3, c4, c5, c6, c7, c8, c9, c10, c11⟩ := HQS.out _ q2
    go_wp2_with fail
    refine (N2.out v2 (HQ.out _ q2).2.2.2.1.ri (HQ.out _ q2).2.2.2.2.1.rp (HQ.out _ q2).2.2.2.2.1.ri).mono ?_
    rintro e v3 ⟨rfl, hb⟩
    have q3 := HQK.out _ _ hb q2
    clear hb q2 c0 c1 c2 c3 c4 c5 c6 c7 c8 c9 c10 c11
    obtain ⟨c0, c1, c2, c3, c4, c5, c6, c7, c8, c9, c10, c11⟩ := HQS.out _ q3
    go_wp2_with fail
    refine (N3.out v3 (HQ.out _ q3).2.2.2.1.ri).mono ?_
    rintro e v4 ⟨rfl, hb⟩
    have q4 := HQK.out _ _ hb q3
    clear hb q3 c0 c1 c2 c3 c4 c5 c6 c7 c8 c9 c10 c11
    have Q7 := Lib.hid q4
    clear q4 N2 N3
    have hcmp : Hid ((0 ≤ n3 → decide (n3 < n1) = false) ∧ (¬ 0 ≤ n3 → decide (0 ≤ n3) = false)) := ⟨fun h => by have := HLE.out h; simp; omega, fun h => by simpa using h⟩
    have hif : ∃ b : Bool, b = decide (0 ≤ n3) := ⟨_, rfl⟩
    by_cases hn3 : 0 ≤ n3
    · have hd3 : decide (0 ≤ n3) = true := by simpa using hn3
      have hd4 := hcmp.out.1 hn3
      clear hcmp hif HLE hn3
      go_wp2_with fail
      go_loopw [15] (fun i wr => ∃ n : Nat, i = .int .i64 n ∧ n ≤ T1.length ∧ Hid (Q wr)) (fun i _ => T1.length - (intOf i).toNat)
      case atStart => exact ⟨0, rfl, Nat.zero_le _, Q7⟩
      case round => as_aux_lemma =>
        obtain ⟨n, rfl, hn, HQn⟩ := hrel
        have hXn := (HQ.out _ HQn.out).2.1
        obtain ⟨x0, x1, _, _⟩ := hXn.m
        by_cases hlt : n < T1.length
        · have hnI : (n : Int) < (T1.length : Int) := by omega
          go_wp2_with fail
          go_loopw [16] (fun j wr => ∃ m : Nat, j = .int .i64 m ∧ m ≤ T1.length ∧ Hid (Q wr)) (fun j _ => T1.length - (intOf j).toNat)
          case atStart => exact ⟨0, rfl, Nat.zero_le _, HQn⟩
          case round => as_aux_lemma =>
            clear hXn x0 x1
            obtain ⟨m, rfl, hm, HQm⟩ := hrel
            obtain ⟨hP, hX, _⟩ := HQ.out _ HQm.out
            obtain ⟨x0, x1, _, _⟩ := hX.m
            by_cases hlt2 : m < T1.length
            · have hmI : (m : Int) < (T1.length : Int) := by omega
              obtain ⟨r1, r2, rfl, hrlt, ⟨hc1, hc2⟩⟩ := hX.rp.at_ hlt
              obtain ⟨r1b, r2b, ed, _, ⟨hc3, hc4⟩⟩ := hX.rp.at_ hlt2
              obtain ⟨rfl, rfl⟩ : r1 = r1b ∧ r2 = r2b := by cases ed; exact ⟨rfl, rfl⟩
              clear ed
              have hE := HF.out.2.2 n m hlt hlt2
              have f1 := HTF.out n hlt; have f2 := HTF.out m hlt2
              have hIs := HF.out.1 n hlt
              generalize T1[n] = pu at *
              generalize T1[m] = pv at *
              obtain ⟨u1, u2⟩ := pu
              obtain ⟨v1, v2⟩ := pv
              simp only at hE f1 f2 hIs hc1 hc2 hc3 hc4
              have N1 : Hid (∀ v, RI v v.heap.size A l → RPl v v.heap.size (some ⟨r1, r2, none⟩) T1 → RI v v.heap.size D L1 → Calls Try.prog 22 #[.agg #[.int .i64 side, .slice A l.length c], .agg #[.slice (some ⟨r1, r2, none⟩) T1.length k, .slice D L1.length d], .agg #[.int .i64 u1, .int .i64 u2], .agg #[.int .i64 v1, .int .i64 v2]] v fun e w' => e = .returned (.int .i64 (dOne side l u1 u2 v1 v2 (D0 n))) ∧ Below v.heap.size v w') := by
                intro v h h2 h3
                have := pBound_gen side A c l (some ⟨r1, r2, none⟩) k T1 D d L1 u1 u2 v1 v2 D0 v h h2 h3 (by omega) (by omega) (by omega) hdx f1.1 f1.2 f2.1 f2.2 HTF.out HF.out.1 HRX.out
                rwa [hE] at this
              have N2 : Hid (∀ v, RI v v.heap.size A l → Calls Try.prog 16 #[.agg #[.int .i64 side, .slice A l.length c], .agg #[.int .i64 u1, .int .i64 u2], .agg #[.int .i64 v1, .int .i64 v2]] v fun e w' => e = .returned (.int .i64 (dOne side l u1 u2 v1 v2 (D0 n))) ∧ Below v.heap.size v w') := fun v h => mDist_any side u1 u2 v1 v2 A c l (D0 n) v h (by omega) hIs
              clear hE f1 f2 hIs
              generalize dOne side l u1 u2 v1 v2 (D0 n) = nd at *
              have hqlt := hX.lt
              have hg := (HP.out _ hP).1
              obtain ⟨R, HRS, HRQ, HRK, q0⟩ : ∃ R : World → Prop, Hid (∀ w', R w' → w'.cell? ⟨qx, 0, none⟩ = some (.slice (some ⟨r1, r2, none⟩) T1.length k) ∧ w'.cell? ⟨qx, 1, none⟩ = some (.slice D L1.length d) ∧ w'.cell? ⟨bg, 0, none⟩ = some (.int .i64 side) ∧ w'.cell? ⟨bg, 1, none⟩ = some (.slice A l.length c) ∧ w'.cell? ⟨r1, r2 + n * 2, none⟩ = some (.int .i64 u1) ∧ w'.cell? ⟨r1, r2 + n * 2 + 1, none⟩ = some (.int .i64 u2) ∧ w'.cell? ⟨r1, r2 + m * 2, none⟩ = some (.int .i64 v1) ∧ w'.cell? ⟨r1, r2 + m * 2 + 1, none⟩ = some (.int .i64 v2)) ∧ Hid (∀ v, R v → Q v) ∧ Hid (Kep R) ∧ R wr :=
                ⟨fun v => Below wr.heap.size wr v, fun v h => ⟨(h.cell (p := ⟨qx, 0, none⟩) hqlt).trans x0, (h.cell (p := ⟨qx, 1, none⟩) hqlt).trans x1, (h.cell (p := ⟨bg, 0, none⟩) hg.lt).trans hg.c0, (h.cell (p := ⟨bg, 1, none⟩) hg.lt).trans hg.c1, (h.cell (p := ⟨r1, r2 + n * 2, none⟩) hrlt).trans hc1, (h.cell (p := ⟨r1, r2 + n * 2 + 1, none⟩) hrlt).trans hc2, (h.cell (p := ⟨r1, r2 + m * 2, none⟩) hrlt).trans hc3, (h.cell (p := ⟨r1, r2 + m * 2 + 1, none⟩) hrlt).trans hc4⟩, fun v h => HQK.out _ _ h HQm.out, fun v v' hb h => h.trans (hb.mono h.size), Below.refl _ _⟩
              have R0 := Lib.hid q0
              clear hg x1 hc1 hc2 hc3 hc4 hP hX hqlt hrlt hlt2
              go_wp2_with fail
              have q0 := HRK.out _ _ (belowD _) R0.out
              have hkeep := HRS.out _ q0
              clear R0 x0
              go_region_held3 (fun w' => w'.cell? ⟨qx, 0, none⟩ = some (.slice (some ⟨r1, r2, none⟩) T1.length k) ∧ w'.cell? ⟨qx, 1, none⟩ = some (.slice D L1.length d) ∧ w'.cell? ⟨bg, 0, none⟩ = some (.int .i64 side) ∧ w'.cell? ⟨bg, 1, none⟩ = some (.slice A l.length c) ∧ w'.cell? ⟨r1, r2 + n * 2, none⟩ = some (.int .i64 u1) ∧ w'.cell? ⟨r1, r2 + n * 2 + 1, none⟩ = some (.int .i64 u2) ∧ w'.cell? ⟨r1, r2 + m * 2, none⟩ = some (.int .i64 v1) ∧ w'.cell? ⟨r1, r2 + m * 2 + 1, none⟩ = some (.int .i64 v2))
                (first
                  | (with_reducible exact hkeep)
                  | go_keep)
                (first
                  | (go_at_call 16; have _c := q1; clear _c; refine (N2.out _ (HP.out _ (HQ.out _ (HRQ.out _ q1)).1).1.ri).mono ?_; rintro e w2' ⟨rfl, hb⟩; clear hkeep; have q2 := HRK.out _ _ hb q1; have hkeep := HRS.out _ q2; clear hb)
                  | (go_at_call 22; have _c := q0; clear _c; refine (N1.out _ (HP.out _ (HQ.out _ (HRQ.out _ q0)).1).1.ri (HQ.out _ (HRQ.out _ q0)).2.1.rp (HQ.out _ (HRQ.out _ q0)).2.1.ri).mono ?_; rintro e w1' ⟨rfl, hb⟩; clear hkeep; have q1 := HRK.out _ _ hb q0; have hkeep := HRS.out _ q1; clear hb))
              all_goals
                have QE := Lib.hid (HRQ.out _ q2)
                clear hkeep q2 q1 q0
                go_wp2_with fail
                go_roundw
                case rel => exact ⟨m + 1, by go_num, by omega, QE⟩
                case measure => simp [intOf] <;> omega
            · obtain rfl : m = T1.length := by omega
              go_wp2_with fail
              go_roundw
              case rel => exact ⟨n + 1, by go_num, by omega, HQm⟩
              case measure => simp [intOf] <;> omega
        · obtain rfl : n = T1.length := by omega
          have HE := Lib.hid (HP.out _ (HQ.out _ HQn.out).1).2.2
          go_wp2_with fail
          go_ret
          exact ⟨rfl, HE.out⟩
    · have hd3 : decide (0 ≤ n3) = false := by simpa using hn3
      clear hcmp hif HLE hn3
      go_wp2_with fail
      go_loopw [15] (fun i wr => ∃ n : Nat, i = .int .i64 n ∧ n ≤ T1.length ∧ Hid (Q wr)) (fun i _ => T1.length - (intOf i).toNat)
      case atStart => exact ⟨0, rfl, Nat.zero_le _, Q7⟩
      case round => as_aux_lemma =>
        obtain ⟨n, rfl, hn, HQn⟩ := hrel
        have hXn := (HQ.out _ HQn.out).2.1
        obtain ⟨x0, x1, _, _⟩ := hXn.m
        by_cases hlt : n < T1.length
        · have hnI : (n : Int) < (T1.length : Int) := by omega
          go_wp2_with fail
          go_loopw [16] (fun j wr => ∃ m : Nat, j = .int .i64 m ∧ m ≤ T1.length ∧ Hid (Q wr)) (fun j _ => T1.length - (intOf j).toNat)
          case atStart => exact ⟨0, rfl, Nat.zero_le _, HQn⟩
          case round => as_aux_lemma =>
            clear hXn x0 x1
            obtain ⟨m, rfl, hm, HQm⟩ := hrel
            obtain ⟨hP, hX, _⟩ := HQ.out _ HQm.out
            obtain ⟨x0, x1, _, _⟩ := hX.m
            by_cases hlt2 : m < T1.length
            · have hmI : (m : Int) < (T1.length : Int) := by omega
              obtain ⟨r1, r2, rfl, hrlt, ⟨hc1, hc2⟩⟩ := hX.rp.at_ hlt
              obtain ⟨r1b, r2b, ed, _, ⟨hc3, hc4⟩⟩ := hX.rp.at_ hlt2
              obtain ⟨rfl, rfl⟩ : r1 = r1b ∧ r2 = r2b := by cases ed; exact ⟨rfl, rfl⟩
              clear ed
              have hE := HF.out.2.2 n m hlt hlt2
              have f1 := HTF.out n hlt; have f2 := HTF.out m hlt2
              have hIs := HF.out.1 n hlt
              generalize T1[n] = pu at *
              generalize T1[m] = pv at *
              obtain ⟨u1, u2⟩ := pu
              obtain ⟨v1, v2⟩ := pv
              simp only at hE f1 f2 hIs hc1 hc2 hc3 hc4
              have N1 : Hid (∀ v, RI v v.heap.size A l → RPl v v.heap.size (some ⟨r1, r2, none⟩) T1 → RI v v.heap.size D L1 → Calls Try.prog 22 #[.agg #[.int .i64 side, .slice A l.length c], .agg #[.slice (some ⟨r1, r2, none⟩) T1.length k, .slice D L1.length d], .agg #[.int .i64 u1, .int .i64 u2], .agg #[.int .i64 v1, .int .i64 v2]] v fun e w' => e = .returned (.int .i64 (dOne side l u1 u2 v1 v2 (D0 n))) ∧ Below v.heap.size v w') := by
                intro v h h2 h3
                have := pBound_gen side A c l (some ⟨r1, r2, none⟩) k T1 D d L1 u1 u2 v1 v2 D0 v h h2 h3 (by omega) (by omega) (by omega) hdx f1.1 f1.2 f2.1 f2.2 HTF.out HF.out.1 HRX.out
                rwa [hE] at this
              have N2 : Hid (∀ v, RI v v.heap.size A l → Calls Try.prog 16 #[.agg #[.int .i64 side, .slice A l.length c], .agg #[.int .i64 u1, .int .i64 u2], .agg #[.int .i64 v1, .int .i64 v2]] v fun e w' => e = .returned (.int .i64 (dOne side l u1 u2 v1 v2 (D0 n))) ∧ Below v.heap.size v w') := fun v h => mDist_any side u1 u2 v1 v2 A c l (D0 n) v h (by omega) hIs
              clear hE f1 f2 hIs
              generalize dOne side l u1 u2 v1 v2 (D0 n) = nd at *
              have hqlt := hX.lt
              have hg := (HP.out _ hP).1
              obtain ⟨R, HRS, HRQ, HRK, q0⟩ : ∃ R : World → Prop, Hid (∀ w', R w' → w'.cell? ⟨qx, 0, none⟩ = some (.slice (some ⟨r1, r2, none⟩) T1.length k) ∧ w'.cell? ⟨qx, 1, none⟩ = some (.slice D L1.length d) ∧ w'.cell? ⟨bg, 0, none⟩ = some (.int .i64 side) ∧ w'.cell? ⟨bg, 1, none⟩ = some (.slice A l.length c) ∧ w'.cell? ⟨r1, r2 + n * 2, none⟩ = some (.int .i64 u1) ∧ w'.cell? ⟨r1, r2 + n * 2 + 1, none⟩ = some (.int .i64 u2) ∧ w'.cell? ⟨r1, r2 + m * 2, none⟩ = some (.int .i64 v1) ∧ w'.cell? ⟨r1, r2 + m * 2 + 1, none⟩ = some (.int .i64 v2)) ∧ Hid (∀ v, R v → Q v) ∧ Hid (Kep R) ∧ R wr :=
                ⟨fun v => Below wr.heap.size wr v, fun v h => ⟨(h.cell (p := ⟨qx, 0, none⟩) hqlt).trans x0, (h.cell (p := ⟨qx, 1, none⟩) hqlt).trans x1, (h.cell (p := ⟨bg, 0, none⟩) hg.lt).trans hg.c0, (h.cell (p := ⟨bg, 1, none⟩) hg.lt).trans hg.c1, (h.cell (p := ⟨r1, r2 + n * 2, none⟩) hrlt).trans hc1, (h.cell (p := ⟨r1, r2 + n * 2 + 1, none⟩) hrlt).trans hc2, (h.cell (p := ⟨r1, r2 + m * 2, none⟩) hrlt).trans hc3, (h.cell (p := ⟨r1, r2 + m * 2 + 1, none⟩) hrlt).trans hc4⟩, fun v h => HQK.out _ _ h HQm.out, fun v v' hb h => h.trans (hb.mono h.size), Below.refl _ _⟩
              have R0 := Lib.hid q0
              clear hg x1 hc1 hc2 hc3 hc4 hP hX hqlt hrlt hlt2
              go_wp2_with fail
              have q0 := HRK.out _ _ (belowD _) R0.out
              have hkeep := HRS.out _ q0
              clear R0 x0
              go_region_held3 (fun w' => w'.cell? ⟨qx, 0, none⟩ = some (.slice (some ⟨r1, r2, none⟩) T1.length k) ∧ w'.cell? ⟨qx, 1, none⟩ = some (.slice D L1.length d) ∧ w'.cell? ⟨bg, 0, none⟩ = some (.int .i64 side) ∧ w'.cell? ⟨bg, 1, none⟩ = some (.slice A l.length c) ∧ w'.cell? ⟨r1, r2 + n * 2, none⟩ = some (.int .i64 u1) ∧ w'.cell? ⟨r1, r2 + n * 2 + 1, none⟩ = some (.int .i64 u2) ∧ w'.cell? ⟨r1, r2 + m * 2, none⟩ = some (.int .i64 v1) ∧ w'.cell? ⟨r1, r2 + m * 2 + 1, none⟩ = some (.int .i64 v2))
                (first
                  | (with_reducible exact hkeep)
                  | go_keep)
                (first
                  | (go_at_call 16; have _c := q1; clear _c; refine (N2.out _ (HP.out _ (HQ.out _ (HRQ.out _ q1)).1).1.ri).mono ?_; rintro e w2' ⟨rfl, hb⟩; clear hkeep; have q2 := HRK.out _ _ hb q1; have hkeep := HRS.out _ q2; clear hb)
                  | (go_at_call 22; have _c := q0; clear _c; refine (N1.out _ (HP.out _ (HQ.out _ (HRQ.out _ q0)).1).1.ri (HQ.out _ (HRQ.out _ q0)).2.1.rp (HQ.out _ (HRQ.out _ q0)).2.1.ri).mono ?_; rintro e w1' ⟨rfl, hb⟩; clear hkeep; have q1 := HRK.out _ _ hb q0; have hkeep := HRS.out _ q1; clear hb))
              all_goals
                have QE := Lib.hid (HRQ.out _ q2)
                clear hkeep q2 q1 q0
                go_wp2_with fail
                go_roundw
                case rel => exact ⟨m + 1, by go_num, by omega, QE⟩
                case measure => simp [intOf] <;> omega
            · obtain rfl : m = T1.length := by omega
              go_wp2_with fail
              go_roundw
              case rel => exact ⟨n + 1, by go_num, by omega, HQm⟩
              case measure => simp [intOf] <;> omega
        · obtain rfl : n = T1.length := by omega
          have HE := Lib.hid (HP.out _ (HQ.out _ HQn.out).1).2.2
          go_wp2_with fail
          go_ret
          exact ⟨rfl, HE.out⟩
end Go.Proofs.Ytphkceiafehidaa
