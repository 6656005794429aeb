/- The law on merges, walked. -/
import Derived.Test.YthhadbojepcdjaaFMp
import Derived.Deep.CutRange
import Derived.Deep.RegionWith
import Derived.Deep.RegionHeld3
namespace Go.Proofs.Ythhadbojepcdjaa
open Go.RowKit
set_option linter.unusedVariables false

set_option maxRecDepth 100000 in
set_option maxHeartbeats 12000000 in
theorem fnMerge_walk (a0 : Option Addr) (len0 cap0 : Nat) (w : World) (i0 : BytesIn w w.heap.size a0 len0) :
    Calls Try.prog 4 #[.slice a0 len0 cap0] w fun e w' => e = .returned (.bool true) ∧ Below w.heap.size w w' := by
  by_cases h0 : 1048576 < (len0 : Int)
  · clear i0
    go_enter Try.func4, Try.ntmps4
    go_wp2_with fail
    go_ret
    exact ⟨rfl, Below.refl _ _⟩
  have hd0 : decide (1048576 < (len0 : Int)) = false := by simpa using h0
  have I0 := Lib.hid i0
  clear i0
  go_enter Try.func4, Try.ntmps4
  go_wp2_with fail
  refine (drawMerge_any a0 len0 cap0 w (by omega) I0.out).mono ?_
  rintro e w1 ⟨so, Ao, co, lo, sa, Aa, ca, la, sb, Ab, cb, lb, rfl, s0, s1, s2, r0, r1, r2, hb1⟩
  have hlo := s0.2.2.1
  have hla := s1.2.2.1
  have hlb := s2.2.2.1
  clear s0 s1 s2 I0
  go_wp2_with fail
  have GO : Gm w1.heap.size so Ao co lo (((w1.alloc (.cells #[.int .i64 so, .slice Ao lo.length co] 25)).alloc (.cells #[.int .i64 sa, .slice Aa la.length ca] 25)).alloc (.cells #[.int .i64 sb, .slice Ab lb.length cb] 25)) := ((Gm.made 25 r0).on (belowA _ _)).on (belowA _ _)
  have GA : Gm (w1.heap.size + 1) sa Aa ca la (((w1.alloc (.cells #[.int .i64 so, .slice Ao lo.length co] 25)).alloc (.cells #[.int .i64 sa, .slice Aa la.length ca] 25)).alloc (.cells #[.int .i64 sb, .slice Ab lb.length cb] 25)) := by
    have := (Gm.made (side := sa) (c := ca) 25 (r1.go (belowA w1 (.cells #[.int .i64 so, .slice Ao lo.length co] 25)))).on (belowA _ (.cells #[.int .i64 sb, .slice Ab lb.length cb] 25))
    rw [alloc_size] at this
    exact this
  have GB_ : Gm (w1.heap.size + 1 + 1) sb Ab cb lb (((w1.alloc (.cells #[.int .i64 so, .slice Ao lo.length co] 25)).alloc (.cells #[.int .i64 sa, .slice Aa la.length ca] 25)).alloc (.cells #[.int .i64 sb, .slice Ab lb.length cb] 25)) := by
    have := (Gm.made (side := sb) (c := cb) 25 ((r2.go (belowA w1 (.cells #[.int .i64 so, .slice Ao lo.length co] 25))).go (belowA _ (.cells #[.int .i64 sa, .slice Aa la.length ca] 25))))
    rw [alloc_size, alloc_size] at this
    exact this
  have HBW : Below w.heap.size w (((w1.alloc (.cells #[.int .i64 so, .slice Ao lo.length co] 25)).alloc (.cells #[.int .i64 sa, .slice Aa la.length ca] 25)).alloc (.cells #[.int .i64 sb, .slice Ab lb.length cb] 25)) := bAnd hb1 (bAnd (belowA _ _) (bAnd (belowA _ _) (belowA _ _)))
  generalize (((w1.alloc (.cells #[.int .i64 so, .slice Ao lo.length co] 25)).alloc (.cells #[.int .i64 sa, .slice Aa la.length ca] 25)).alloc (.cells #[.int .i64 sb, .slice Ab lb.length cb] 25)) = W at GO GA GB_ HBW ⊢
  generalize w1.heap.size + 1 + 1 = bb at GB_ ⊢
  generalize w1.heap.size + 1 = ba at GA ⊢
  generalize w1.heap.size = bo at GO ⊢
  clear hb1 r0 r1 r2
  obtain ⟨P, HPd, HK, HP, pW⟩ : ∃ P : World → Prop, Hid (∀ v, P v = Below W.heap.size W v) ∧ Hid (Kep P) ∧ Hid (∀ w', P w' → Gm bo so Ao co lo w' ∧ Gm ba sa Aa ca la w' ∧ Gm bb sb Ab cb lb w' ∧ Below w.heap.size w w') ∧ P W :=
    ⟨fun w' => Below W.heap.size W w', fun _ => rfl, fun v v' hb h => h.trans (hb.mono h.size), fun v h => ⟨GO.on h, GA.on h, GB_.on h, bAnd HBW h⟩, Below.refl _ _⟩
  have HPA : Hid (∀ v o, P v → P (v.alloc o)) := fun v o h => HK.out _ _ (belowA v o) h
  have HPS : Hid (∀ v q i x, P v → W.heap.size ≤ q → P (v.setCell ⟨q, i, none⟩ x)) := by
    intro v q i x h hq
    rw [HPd.out] at h ⊢
    exact h.setCell hq _
  have HPZ : Hid (∀ v, P v → W.heap.size ≤ v.heap.size) := by
    intro v h
    rw [HPd.out] at h
    exact h.size
  have HS : Hid (∀ w', P w' → w'.cell? ⟨bo, 0, none⟩ = some (.int .i64 so) ∧ w'.cell? ⟨bo, 1, none⟩ = some (.slice Ao lo.length co) ∧ w'.cell? ⟨ba, 0, none⟩ = some (.int .i64 sa) ∧ w'.cell? ⟨ba, 1, none⟩ = some (.slice Aa la.length ca) ∧ w'.cell? ⟨bb, 0, none⟩ = some (.int .i64 sb) ∧ w'.cell? ⟨bb, 1, none⟩ = some (.slice Ab lb.length cb)) := by
    intro w' h
    obtain ⟨h1, h2, h3, _⟩ := HP.out w' h
    exact ⟨h1.c0, h1.c1, h2.c0, h2.c1, h3.c0, h3.c1⟩
  clear GO GA GB_ HBW
  have HI : Hid (∀ wr, P wr → Calls Try.prog 19 #[.agg #[.int .i64 so, .slice Ao lo.length co], .agg #[.int .i64 sa, .slice Aa la.length ca], .agg #[.int .i64 sb, .slice Ab lb.length cb]] wr (fun e w' => MRead wr w' (mergeOut so lo sa la sb lb) e)) := fun wr p => (pMerge_any so Ao co lo sa Aa ca la sb Ab cb lb wr (HP.out _ p).1.ri (HP.out _ p).2.1.ri (HP.out _ p).2.2.1.ri (by omega) (by omega) (by omega)).mono fun _ _ h => h.rd
  have HM : Hid (∀ wr, P wr → Calls Try.prog 20 #[.agg #[.int .i64 so, .slice Ao lo.length co], .agg #[.int .i64 sa, .slice Aa la.length ca], .agg #[.int .i64 sb, .slice Ab lb.length cb]] wr (fun e w' => MRead wr w' (mergeOut so lo sa la sb lb) e)) := fun wr p => (mMerge_any so Ao co lo sa Aa ca la sb Ab cb lb wr (HP.out _ p).1.ri (HP.out _ p).2.1.ri (HP.out _ p).2.2.1.ri (by omega) (by omega) (by omega)).mono fun _ _ h => h.rd
  have HI2 : Hid (∀ wr, P wr → Calls Try.prog 19 #[.agg #[.int .i64 so, .slice Ao lo.length co], .agg #[.int .i64 sb, .slice Ab lb.length cb], .agg #[.int .i64 sa, .slice Aa la.length ca]] wr (fun e w' => MRead wr w' (mergeOut so lo sb lb sa la) e)) := fun wr p => (pMerge_any so Ao co lo sb Ab cb lb sa Aa ca la wr (HP.out _ p).1.ri (HP.out _ p).2.2.1.ri (HP.out _ p).2.1.ri (by omega) (by omega) (by omega)).mono fun _ _ h => h.rd
  have HI3 : Hid (∀ wr, P wr → Calls Try.prog 19 #[.agg #[.int .i64 so, .slice Ao lo.length co], .agg #[.int .i64 sa, .slice Aa la.length ca], .agg #[.int .i64 so, .slice Ao lo.length co]] wr (fun e w' => MRead wr w' (mergeOut so lo sa la so lo) e)) := fun wr p => (pMerge_any so Ao co lo sa Aa ca la so Ao co lo wr (HP.out _ p).1.ri (HP.out _ p).2.1.ri (HP.out _ p).1.ri (by omega) (by omega) (by omega)).mono fun _ _ h => h.rd
  have HI4 : Hid (∀ wr, P wr → Calls Try.prog 19 #[.agg #[.int .i64 so, .slice Ao lo.length co], .agg #[.int .i64 so, .slice Ao lo.length co], .agg #[.int .i64 sb, .slice Ab lb.length cb]] wr (fun e w' => MRead wr w' (mergeOut so lo so lo sb lb) e)) := fun wr p => (pMerge_any so Ao co lo so Ao co lo sb Ab cb lb wr (HP.out _ p).1.ri (HP.out _ p).1.ri (HP.out _ p).2.2.1.ri (by omega) (by omega) (by omega)).mono fun _ _ h => h.rd
  have HI5 : Hid (∀ wr, P wr → Calls Try.prog 19 #[.agg #[.int .i64 so, .slice Ao lo.length co], .agg #[.int .i64 sa, .slice Aa la.length ca], .agg #[.int .i64 sa, .slice Aa la.length ca]] wr (fun e w' => MRead wr w' (mergeOut so lo sa la sa la) e)) := fun wr p => (pMerge_any so Ao co lo sa Aa ca la sa Aa ca la wr (HP.out _ p).1.ri (HP.out _ p).2.1.ri (HP.out _ p).2.1.ri (by omega) (by omega) (by omega)).mono fun _ _ h => h.rd
  have HF := Lib.hid (merge_facts (so := so) (lo := lo) (sa := sa) (la := la) (sb := sb) (lb := lb))
  have hlen := mergeOut_len so lo sa la sb lb
  have hlen2 := mergeOut_len so lo sb lb sa la
  unfold MRead at HI HM HI2 HI3 HI4 HI5
  generalize mergeOut so lo sa la sb lb = R1 at *
  obtain ⟨C1, S1, T1, L1⟩ := R1
  generalize mergeOut so lo sb lb sa la = R2 at *
  obtain ⟨C2, S2, T2, L2⟩ := R2
  generalize mergeOut so lo sa la so lo = R3 at *
  obtain ⟨C3, S3, T3, L3⟩ := R3
  generalize mergeOut so lo so lo sb lb = R4 at *
  obtain ⟨C4, S4, T4, L4⟩ := R4
  generalize mergeOut so lo sa la sa la = R5 at *
  obtain ⟨C5, S5, T5, L5⟩ := R5
  simp only at HI HM HI2 HI3 HI4 HI5 HF hlen hlen2
  obtain ⟨hlT, hlL⟩ := hlen
  obtain ⟨hlT2, hlL2⟩ := hlen2
  obtain ⟨k0, k1, k2, k3, k4, k5⟩ := HS.out _ pW
  go_cut [6, 7] from 18 to 25 (fun cx cy wx => Pair P S1 C1 T1 L1 cx cy wx)
  case first =>
    clear k0 k1 k2 k3 k4 k5
    have p0 := HK.out _ _ (belowD W) pW
    have pZ := HK.out _ _ (bAnd (belowA W (.cells #[.int .i64 0, .slice none 0 0, .slice none 0 0, .int .i64 0] 45)) (belowD _)) pW
    have pZZ := HK.out _ _ (bAnd (bAnd (belowA W (.cells #[.int .i64 0, .slice none 0 0, .slice none 0 0, .int .i64 0] 45)) (belowA _ (.cells #[.int .i64 0, .slice none 0 0, .slice none 0 0, .int .i64 0] 45))) (belowD _)) pW
    have zZ := (Zb.made (w0 := W) (Nat.le_refl W.heap.size)).on (belowD _)
    have zZ2 := ((Zb.made (w0 := W) (Nat.le_refl W.heap.size)).on (belowA _ (.cells #[.int .i64 0, .slice none 0 0, .slice none 0 0, .int .i64 0] 45))).on (belowD _)
    have zZ3 := (Zb.made (w0 := W) (w := W.alloc (.cells #[.int .i64 0, .slice none 0 0, .slice none 0 0, .int .i64 0] 45)) (by simp)).on (belowD _)
    rw [alloc_size] at zZ3
    have hkeep := HS.out _ p0
    go_region_held3 (fun w' => w'.cell? ⟨bo, 0, none⟩ = some (.int .i64 so) ∧ w'.cell? ⟨bo, 1, none⟩ = some (.slice Ao lo.length co) ∧ w'.cell? ⟨ba, 0, none⟩ = some (.int .i64 sa) ∧ w'.cell? ⟨ba, 1, none⟩ = some (.slice Aa la.length ca) ∧ w'.cell? ⟨bb, 0, none⟩ = some (.int .i64 sb) ∧ w'.cell? ⟨bb, 1, none⟩ = some (.slice Ab lb.length cb))
      (first
        | (with_reducible exact hkeep)
        | (refine HS.out _ ?_; repeat (first | (with_reducible exact p2) | (with_reducible exact p1) | (with_reducible exact pZZ) | (with_reducible exact pZ) | (with_reducible exact p0) | (refine HPS.out _ _ _ _ ?_ (by first | (with_reducible exact hqx) | (with_reducible exact hqy) | exact Nat.le_refl _ | exact hv2 | (simp; omega))) | (refine HPA.out _ _ ?_))))
      (first
        | (go_at_call 20; have _c := p1; clear _c; refine (HM.out v1 p1).mono ?_; rintro e v2 ⟨Y, k', D', d', rfl, ry, ryc, oy, hb⟩; have oy := Lib.hid oy; have hvs := Lib.hid hb.size; clear hkeep; have hb12 := hb; have p2 := HK.out _ _ hb12 p1; have hkeep := HS.out _ p2; have rx2 := rx.go hb12; have rxc2 := rxc.go hb12; have hv2 := HPZ.out _ p2; try (have gx := Lib.hid (oy.out.off_lo zx.lt.2); have zx2 := zx.on hb12; obtain ⟨s0, s1, s2, s3, t0, t1, t2, t3⟩ := zx2.m; have hzx := zx2.lt.2; have hqx := zx2.lt.1); try (have gy := Lib.hid (oy.out.off_lo zy.lt.2); have zy2 := zy.on hb12; obtain ⟨u0, u1, u2, u3, y0, y1, y2, y3⟩ := zy2.m; have hzy := zy2.lt.2; have hqy := zy2.lt.1); clear hb)
        | (go_at_call 20; have _c := p1; clear _c; refine (HM.out (v1.alloc (.cells #[.int .i64 0, .slice none 0 0, .slice none 0 0, .int .i64 0] 45)) (HK.out _ _ (belowA _ _) p1)).mono ?_; rintro e v2 ⟨Y, k', D', d', rfl, ry, ryc, oy, hb⟩; have oy := Lib.hid oy; have hvs := Lib.hid hb.size; clear hkeep; have hb12 := bAnd (belowA _ _) hb; have p2 := HK.out _ _ hb12 p1; have hkeep := HS.out _ p2; have rx2 := rx.go hb12; have rxc2 := rxc.go hb12; have hv1 := HPZ.out _ p1; have hv2 := HPZ.out _ p2; first | (have gx := Lib.hid (oy.out.off_lo (Nat.lt_of_lt_of_le zx.lt.2 (by simp))); have fy := Lib.hid (ox.out.off_hi (Nat.le_refl _)); have gy := Lib.hid (oy.out.off_lo (q := v1.heap.size) (by simp)); have zx2 := zx.on hb12; have zy2 := (Zb.made (w0 := W) hv1).on hb; have hxy := Nat.lt_of_lt_of_le zx.lt.2 (Nat.le_refl _); obtain ⟨s0, s1, s2, s3, t0, t1, t2, t3⟩ := zx2.m; have hzx := zx2.lt.2; have hqx := zx2.lt.1; obtain ⟨u0, u1, u2, u3, y0, y1, y2, y3⟩ := zy2.m; have hzy := zy2.lt.2; have hqy := zy2.lt.1; have hn1 := Nat.ne_of_lt hxy; have hn2 := Nat.ne_of_gt hxy; have hne := Lib.hid hn1) | (have fx := Lib.hid (ox.out.off_hi (Nat.le_refl _)); have gx := Lib.hid (oy.out.off_lo (q := v1.heap.size) (by simp)); have zx2 := (Zb.made (w0 := W) hv1).on hb; obtain ⟨s0, s1, s2, s3, t0, t1, t2, t3⟩ := zx2.m; have hzx := zx2.lt.2; have hqx := zx2.lt.1); clear hb)
        | (go_at_call 20; have _c := p1; clear _c; refine (HM.out ((v1.alloc (.cells #[.int .i64 0, .slice none 0 0, .slice none 0 0, .int .i64 0] 45)).alloc (.cells #[.int .i64 0, .slice none 0 0, .slice none 0 0, .int .i64 0] 45)) (HK.out _ _ (bAnd (belowA _ _) (belowA _ _)) p1)).mono ?_; rintro e v2 ⟨Y, k', D', d', rfl, ry, ryc, oy, hb⟩; have oy := Lib.hid oy; have hvs := Lib.hid hb.size; clear hkeep; have hb12 := bAnd (bAnd (belowA _ _) (belowA _ _)) hb; have p2 := HK.out _ _ hb12 p1; have hkeep := HS.out _ p2; have rx2 := rx.go hb12; have rxc2 := rxc.go hb12; have hv1 := HPZ.out _ p1; have hv2 := HPZ.out _ p2; have fx := Lib.hid (ox.out.off_hi (Nat.le_refl _)); have gx := Lib.hid (oy.out.off_lo (q := v1.heap.size) (by simp; omega)); have fy := Lib.hid (ox.out.off_hi (Nat.le_succ _)); have gy := Lib.hid (oy.out.off_lo (q := v1.heap.size + 1) (by simp)); have hne := Lib.hid (Nat.ne_of_lt (Nat.lt_succ_self v1.heap.size)); have zx2 := ((Zb.made (w0 := W) hv1).on (belowA _ (.cells #[.int .i64 0, .slice none 0 0, .slice none 0 0, .int .i64 0] 45))).on hb; have zy2 := (Zb.made (w0 := W) (w := v1.alloc (.cells #[.int .i64 0, .slice none 0 0, .slice none 0 0, .int .i64 0] 45)) (by simp; omega)).on hb; rw [alloc_size] at zy2; obtain ⟨s0, s1, s2, s3, t0, t1, t2, t3⟩ := zx2.m; have hzx := zx2.lt.2; have hqx := zx2.lt.1; obtain ⟨u0, u1, u2, u3, y0, y1, y2, y3⟩ := zy2.m; have hzy := zy2.lt.2; have hqy := zy2.lt.1; clear hb)
        | (go_at_call 19; refine (HI.out W.drew p0).mono ?_; rintro e v1 ⟨X, k, D, d, rfl, rx, rxc, ox, hb⟩; have ox := Lib.hid ox; clear hkeep; have p1 := HK.out _ _ hb p0; have hkeep := HS.out _ p1; clear hb)
        | (go_at_call 19; refine (HI.out (W.alloc (.cells #[.int .i64 0, .slice none 0 0, .slice none 0 0, .int .i64 0] 45)).drew pZ).mono ?_; rintro e v1 ⟨X, k, D, d, rfl, rx, rxc, ox, hb⟩; have ox := Lib.hid ox; clear hkeep; have p1 := HK.out _ _ hb pZ; have hkeep := HS.out _ p1; have zx := zZ.on hb; have fx := Lib.hid (ox.out.off_lo zZ.lt.2); clear hb)
        | (go_at_call 19; refine (HI.out ((W.alloc (.cells #[.int .i64 0, .slice none 0 0, .slice none 0 0, .int .i64 0] 45)).alloc (.cells #[.int .i64 0, .slice none 0 0, .slice none 0 0, .int .i64 0] 45)).drew pZZ).mono ?_; rintro e v1 ⟨X, k, D, d, rfl, rx, rxc, ox, hb⟩; have ox := Lib.hid ox; clear hkeep; have p1 := HK.out _ _ hb pZZ; have hkeep := HS.out _ p1; have zx := zZ2.on hb; have zy := zZ3.on hb; have fx := Lib.hid (ox.out.off_lo zZ2.lt.2); have fy := Lib.hid (ox.out.off_lo zZ3.lt.2); have hne := Lib.hid (Nat.ne_of_lt (Nat.lt_succ_self W.heap.size)); clear hb))
    all_goals
      clear hkeep
      go_wp2_with fail
      go_meet
      first
        | (with_reducible exact pair_a1 HPA.out p2 rx2 rxc2 ry ryc)
        | (with_reducible exact pair_a2 HPA.out p2 rx2 rxc2 ry ryc)
        | (with_reducible exact pair_b1 HPA.out HPS.out p2 rx2 rxc2 ry ryc zx2 fx.out gx.out)
        | (with_reducible exact pair_b2 HPA.out HPS.out p2 rx2 rxc2 ry ryc zx2 fx.out gx.out)
        | (with_reducible exact pair_c1 HPS.out p2 rx2 rxc2 ry ryc zx2 fx.out gx.out zy2 fy.out gy.out hne.out)
        | (with_reducible exact pair_c1 HPS.out p2 rx2 rxc2 ry ryc zy2 fy.out gy.out zx2 fx.out gx.out hne.out.symm)
        | (with_reducible exact pair_c2 HPS.out p2 rx2 rxc2 ry ryc zx2 fx.out gx.out zy2 fy.out gy.out hne.out)
        | (with_reducible exact pair_c2 HPS.out p2 rx2 rxc2 ry ryc zy2 fy.out gy.out zx2 fx.out gx.out hne.out.symm)
  case rest =>
    obtain ⟨qx, qy, X, k, D, d, Y, k', D', d', rfl, rfl, pc, mx, my⟩ := hcut
    clear HM k0 k1 k2 k3 k4 k5 pW
    obtain ⟨x0, x1, x2, x3, _, _, _, _⟩ := mx.m
    obtain ⟨y0, y1, y2, y3, _, _, _, _⟩ := my.m
    go_wp2_with fail
    refine (lwGrid_any S1 X Y k k' T1 wc mx.ri my.ri (by omega)).mono ?_
    rintro e w2 ⟨rfl, hb⟩
    replace pc := HK.out _ _ hb pc; replace mx := mx.on hb; replace my := my.on hb
    clear hb x0 x1 x2 x3 y0 y1 y2 y3
    obtain ⟨x0, x1, x2, x3, _, _, _, _⟩ := mx.m
    obtain ⟨y0, y1, y2, y3, _, _, _, _⟩ := my.m
    go_wp2_with fail
    refine (lwChanges_any D D' d d' L1 w2 mx.rc my.rc (by omega)).mono ?_
    rintro e w3 ⟨rfl, hb⟩
    replace pc := HK.out _ _ hb pc; replace mx := mx.on hb
    clear hb x0 x1 x2 x3 y0 y1 y2 y3 my
    obtain ⟨x0, x1, x2, x3, _, _, _, _⟩ := mx.m
    by_cases hC : C1 = 0
    case neg =>
      have hq1 : (C1 != 0) = true := by simpa using hC
      have HPF := Lib.hid pc
      clear mx
      go_wp2_with fail
      go_ret
      exact ⟨rfl, (HP.out _ HPF.out).2.2.2⟩
    have hq1 : (C1 != 0) = false := by simpa using hC
    obtain ⟨e1, e2, e3, e4, e5, e6, e7, e8⟩ := HF.out hC
    simp only [e1, e2] at HI3
    simp only [e3, e4] at HI4
    simp only [e5, e6] at HI5
    have E7 := Lib.hid e7; have E8 := Lib.hid e8
    clear e1 e2 e3 e4 e5 e6 e7 e8 HF hC
    obtain ⟨g0, g1, g2, g3, g4, g5⟩ := HS.out _ pc
    go_wp2_with fail
    refine (HI2.out w3 pc).mono ?_
    rintro e w4 ⟨Z, z, E, u, rfl, rz, rzc, _, hb⟩
    replace pc := HK.out _ _ hb pc; replace mx := mx.on hb
    clear hb x0 x1 x2 x3 g0 g1 g2 g3 g4 g5
    have M2 := Mm.made (S := S2) (C := C2) (c := z) (d := u) 45 rz rzc
    have p5 := HPA.out _ (.cells #[.int .i64 S2, .slice Z T2.length z, .slice E L2.length u, .int .i64 C2] 45) pc
    have m5 := mx.on (belowA w4 (.cells #[.int .i64 S2, .slice Z T2.length z, .slice E L2.length u, .int .i64 C2] 45))
    go_wp2_with fail
    generalize (w4.alloc (.cells #[.int .i64 S2, .slice Z T2.length z, .slice E L2.length u, .int .i64 C2] 45)) = W5 at M2 p5 m5 ⊢
    generalize w4.heap.size = qz at M2 ⊢
    clear rz rzc pc mx HI2
    obtain ⟨Q, HQK, HQ, q0⟩ : ∃ Q : World → Prop, Hid (Kep Q) ∧ Hid (∀ v, Q v → P v ∧ Mm qx S1 C1 X k T1 D d L1 v ∧ Mm qz S2 C2 Z z T2 E u L2 v) ∧ Q W5.drew :=
      ⟨fun v => P v ∧ Mm qx S1 C1 X k T1 D d L1 v ∧ Mm qz S2 C2 Z z T2 E u L2 v, fun v v' hb h => ⟨HK.out _ _ hb h.1, h.2.1.on hb, h.2.2.on hb⟩, fun _ h => h, HK.out _ _ (belowD _) p5, m5.on (belowD _), M2.on (belowD _)⟩
    have HQS : Hid (∀ w', Q w' → w'.cell? ⟨bo, 0, none⟩ = some (.int .i64 so) ∧ w'.cell? ⟨bo, 1, none⟩ = some (.slice Ao lo.length co) ∧ w'.cell? ⟨ba, 0, none⟩ = some (.int .i64 sa) ∧ w'.cell? ⟨ba, 1, none⟩ = some (.slice Aa la.length ca) ∧ w'.cell? ⟨bb, 0, none⟩ = some (.int .i64 sb) ∧ w'.cell? ⟨bb, 1, none⟩ = some (.slice Ab lb.length cb) ∧ w'.cell? ⟨qx, 2, none⟩ = some (.slice D L1.length d) ∧ w'.cell? ⟨qz, 2, none⟩ = some (.slice E L1.length u)) := by
      intro w' h
      obtain ⟨h1, h2, h3⟩ := HQ.out w' h
      have h4 := h3.m.c2
      rw [E7.out] at h4
      obtain ⟨a1, a2, a3, a4, a5, a6⟩ := HS.out w' h1
      exact ⟨a1, a2, a3, a4, a5, a6, h2.m.c2, h4⟩
    have HQA : Hid (∀ v, Q v → RI v v.heap.size Aa la) := fun v h => (HP.out _ (HQ.out v h).1).2.1.ri
    have HQB : Hid (∀ v, Q v → RI v v.heap.size Ab lb) := fun v h => (HP.out _ (HQ.out v h).1).2.2.1.ri
    have N3 := Lib.hid (fun v h => HI3.out v (HQ.out v h).1)
    have N4 := Lib.hid (fun v h => HI4.out v (HQ.out v h).1)
    have N5 := Lib.hid (fun v h => HI5.out v (HQ.out v h).1)
    have hkeep := HQS.out _ q0
    have hfd := field_merge
    clear M2 p5 m5 HI3 HI4 HI5
    go_cut [90] from 54 to 90 (fun c wx => c = .bool false ∧ Q wx)
    case first =>
      go_region_held3 (fun w' => w'.cell? ⟨bo, 0, none⟩ = some (.int .i64 so) ∧ w'.cell? ⟨bo, 1, none⟩ = some (.slice Ao lo.length co) ∧ w'.cell? ⟨ba, 0, none⟩ = some (.int .i64 sa) ∧ w'.cell? ⟨ba, 1, none⟩ = some (.slice Aa la.length ca) ∧ w'.cell? ⟨bb, 0, none⟩ = some (.int .i64 sb) ∧ w'.cell? ⟨bb, 1, none⟩ = some (.slice Ab lb.length cb) ∧ w'.cell? ⟨qx, 2, none⟩ = some (.slice D L1.length d) ∧ w'.cell? ⟨qz, 2, none⟩ = some (.slice E L1.length u))
        (first
          | exact hkeep
          | go_keep)
        (first
          | (go_at_call 17; refine (lwGrid_any sa X5 Aa k5 ca la v5 r5 (HQA.out _ q5) (by omega)).mono ?_; rintro e v6 ⟨rfl, hb⟩; clear hkeep; have q6 := HQK.out _ _ hb q5; have hkeep := HQS.out _ q6; clear hb)
          | (go_at_call 19; refine (N5.out v4 q4).mono ?_; rintro e v5 ⟨X5, k5, D5, d5, rfl, r5, _, _, hb⟩; clear hkeep; have q5 := HQK.out _ _ hb q4; have hkeep := HQS.out _ q5; clear hb)
          | (go_at_call 17; refine (lwGrid_any sb X4 Ab k4 cb lb v3 r4 (HQB.out _ q3) (by omega)).mono ?_; rintro e v4 ⟨rfl, hb⟩; clear hkeep; have q4 := HQK.out _ _ hb q3; have hkeep := HQS.out _ q4; clear hb)
          | (go_at_call 19; refine (N4.out v2 q2).mono ?_; rintro e v3 ⟨X4, k4, D4, d4, rfl, r4, _, _, hb⟩; clear hkeep; have q3 := HQK.out _ _ hb q2; have hkeep := HQS.out _ q3; clear hb)
          | (go_at_call 17; refine (lwGrid_any sa X3 Aa k3 ca la v1 r3 (HQA.out _ q1) (by omega)).mono ?_; rintro e v2 ⟨rfl, hb⟩; clear hkeep; have q2 := HQK.out _ _ hb q1; have hkeep := HQS.out _ q2; clear hb)
          | (go_at_call 19; refine (N3.out W5.drew q0).mono ?_; rintro e v1 ⟨X3, k3, D3, d3, rfl, r3, _, _, hb⟩; clear hkeep; have q1 := HQK.out _ _ hb q0; have hkeep := HQS.out _ q1; clear hb))
      all_goals
        go_wp2_with fail
        go_meet
        exact ⟨rfl, q6⟩
    case rest =>
      obtain ⟨rfl, qe⟩ := hcut
      clear hkeep q0 N3 N4 N5
      obtain ⟨pe, me, ze⟩ := HQ.out _ qe
      obtain ⟨x0, x1, x2, x3, _, _, _, _⟩ := me.m
      obtain ⟨z0, z1, z2, z3, _, _, _, _⟩ := ze.m
      by_cases hL : L1.length = 0
      · obtain ⟨e7, e8⟩ := E8.out hL
        subst e7 e8
        have hz : ((L1.length : Int)) = 0 := by omega
        have hd1 : decide ((0 : Int) < (L1.length : Int)) = false := by simp [hL]
        have HPF := Lib.hid pe
        clear pe
        go_wp2_with fail
        refine (lwGrid_any _ Z X z k _ wc ze.ri me.ri (by omega)).mono ?_
        rintro e w6 ⟨rfl, hb⟩
        have HPG := Lib.hid (HK.out _ _ hb HPF.out)
        clear x0 x1 x2 x3 z0 z1 z2 z3 hb me ze qe
        go_wp2_with fail
        go_ret
        exact ⟨rfl, (HP.out _ HPG.out).2.2.2⟩
      · have hd1 : decide ((0 : Int) < (L1.length : Int)) = true := by simp; omega
        have HPF := Lib.hid pe
        clear pe
        go_wp2_with fail
        go_ret
        exact ⟨rfl, (HP.out _ HPF.out).2.2.2⟩
end Go.Proofs.Ythhadbojepcdjaa
