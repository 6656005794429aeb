/- The law on maps, walked. -/
import Derived.Test.YtcadjfnfjakbeaaFGp
import Derived.Deep.CutRange
import Derived.Deep.RegionWith
namespace Go.Proofs.Ytcadjfnfjakbeaa
open Go.RowKit

set_option maxRecDepth 100000 in
set_option maxHeartbeats 4000000 in
theorem fnGrid_walk (a0 : Option Addr) (len0 cap0 : Nat) (a1 : Option Addr) (len1 cap1 : Nat) (w : World) (i0 : BytesIn w w.heap.size a0 len0) (i1 : BytesIn w w.heap.size a1 len1) :
    Calls Try.prog 3 #[.slice a0 len0 cap0, .slice a1 len1 cap1] w fun e w' => e = .returned (.bool true) ∧ Below w.heap.size w w' := by
  by_cases h0 : 1048576 < (len0 : Int)
  · clear i0 i1
    go_enter Try.func3, Try.ntmps3
    go_wp2_with fail
    go_ret
    exact ⟨rfl, Below.refl _ _⟩
  by_cases h1 : 1048576 < (len1 : Int)
  · clear i0 i1
    go_enter Try.func3, Try.ntmps3
    go_wp2_with fail
    go_ret
    exact ⟨rfl, Below.refl _ _⟩
  have F0 : Hid (FP w a0 a1 len0 len1 w) := ⟨i0, i1, Nat.le_refl _, Below.refl _ _⟩
  have KF := Lib.hid (kept_fp w a0 a1 len0 len1)
  clear i0 i1
  have hd0 : decide (1048576 < (len0 : Int)) = false := by simpa using h0
  have hd1 : decide (1048576 < (len1 : Int)) = false := by simpa using h1
  go_enter Try.func3, Try.ntmps3
  go_wp2_with fail
  -- what is to be filled
  refine (drawFill_any a0 len0 cap0 w (by omega) F0.out.code).mono ?_
  rintro e w1 ⟨sg, Ag, cg, lg, x, y, wd, ht, tl, rfl, hsg, ⟨hx, hy, hwd, hht, htl⟩, ho1, hb1⟩
  have F1 := Lib.hid (KF.out _ _ (hb1.trans ((below_alloc w1 (.cells #[.int .i64 sg, .slice Ag lg.length cg] 25)).mono hb1.size)) F0.out)
  have G1 := Lib.hid (Gd.made (side := sg) (A := Ag) (c := cg) (l := lg) 25 ho1.ri)
  have HSG := Lib.hid hsg
  have h65 := hsg.2.2.1
  clear hsg ho1 hb1
  go_wp2_with fail
  generalize w1.alloc (.cells #[.int .i64 sg, .slice Ag lg.length cg] 25) = W1 at *
  generalize w1.heap.size = bg at *
  -- it is filled
  refine (pFill_any sg x y wd ht tl Ag cg lg W1 G1.out.ri (by omega) hx hy).mono ?_
  rintro e w2 ⟨A1, c1, rfl, ho2, hb2⟩
  have hM1 := fun w h => mFill_any sg x y wd ht tl Ag cg lg w h (by omega) hx.1 hx.2 hy.1 hy.2
  have hlen1 : (fillTiles sg lg x y wd ht tl).length ≤ 65 := Nat.le_trans (fillTiles_le ..) h65
  have HF1 : Hid (fillCode sg lg x y wd ht tl = 0 → gridRight (fillSide sg lg x y wd ht tl) (fillTiles sg lg x y wd ht tl) = true) := by
    show _ → _
    intro hc
    obtain ⟨h1, h2, _, h4⟩ := fill_is hc
    rw [h1, h2]; exact h4
  have HF2 : Hid (fillCode sg lg x y wd ht tl = 0 → fillSide sg lg x y wd ht tl = sg ∧ 1 ≤ sg ∧ sg ≤ 8 ∧ (0 ≤ x ∧ 0 ≤ y ∧ 1 ≤ wd ∧ 1 ≤ ht ∧ x + wd ≤ sg ∧ y + ht ≤ sg) ∧ ∀ i j : Int, 0 ≤ i ∧ i < sg → 0 ≤ j ∧ j < sg → tileAt sg (fillTiles sg lg x y wd ht tl) i j = if x ≤ i ∧ i < x + wd ∧ y ≤ j ∧ j < y + ht then tl else tileAt sg lg i j) := by
    show _ → _
    intro hc
    obtain ⟨h1, h2, h3, h4⟩ := fill_is hc
    have hsb := side_bound (right_parts h3).1
    refine ⟨h1, hsb.1, hsb.2, fillIn_iff.1 (fill_ok hc).2, fun i j hi hj => ?_⟩
    rw [h2]
    exact fill_tile h3 h4 hi hj
  generalize fillSide sg lg x y wd ht tl = S1 at *
  generalize fillTiles sg lg x y wd ht tl = L1 at *
  generalize fillCode sg lg x y wd ht tl = C1 at *
  have F2 := Lib.hid (KF.out _ _ (hb2.trans ((below_alloc w2 (.cells #[.int .i64 S1, .slice A1 L1.length c1, .int .i64 C1] 29)).mono hb2.size)) F1.out)
  have G2 := Lib.hid (G1.out.on (hb2.trans ((below_alloc w2 (.cells #[.int .i64 S1, .slice A1 L1.length c1, .int .i64 C1] 29)).mono hb2.size)))
  have Z2 := Lib.hid (Ge.made (side := S1) (A := A1) (c := c1) (l := L1) (code := C1) 29 ho2.ri)
  clear ho2 hb2 F1 G1 F0
  obtain ⟨k0, k1, _, _⟩ := G2.out
  go_wp2_with fail
  generalize w2.alloc (.cells #[.int .i64 S1, .slice A1 L1.length c1, .int .i64 C1] 29) = W2 at *
  generalize w2.heap.size = bz at *
  clear k0 k1
  -- a new one
  refine (drawNew_any a1 len1 cap1 W2 (by omega) F2.out.more).mono ?_
  rintro e w3 ⟨sn, tn, rfl, hnn, hb3⟩
  have F3 := Lib.hid (KF.out _ _ hb3 F2.out)
  have G3 := Lib.hid (G2.out.on hb3)
  have Z3 := Lib.hid (Z2.out.on hb3)
  clear hb3 F2 G2 Z2
  go_wp2_with fail
  -- one whose text is told
  refine (drawText_any a1 len1 cap1 w3 (by omega) F3.out.more).mono ?_
  rintro e w4 ⟨st, At, ct, lt, rfl, hst, ho4, hb4⟩
  have hb4' := hb4.trans ((below_alloc w4 (.cells #[.int .i64 st, .slice At lt.length ct] 25)).mono hb4.size)
  have F4 := Lib.hid (KF.out _ _ hb4' F3.out)
  have G4 := Lib.hid (G3.out.on hb4')
  have Z4 := Lib.hid (Z3.out.on hb4')
  have T4 := Lib.hid (Gd.made (side := st) (A := At) (c := ct) (l := lt) 25 ho4.ri)
  have hct := ho4.cap
  have h65t := hst.2.2.1
  clear hst ho4 hb4 hb4' F3 G3 Z3
  go_wp2_with fail
  generalize w4.alloc (.cells #[.int .i64 st, .slice At lt.length ct] 25) = W4 at *
  generalize w4.heap.size = bt at *
  refine (pText_any st At ct lt W4 T4.out.ri (by omega) hct).mono ?_
  rintro e w5 ⟨rfl, hb5⟩
  have hMT := fun w h => mText_any st At ct lt w h (by omega)
  have HRB : Hid ((strOfNums (textOf st lt)).toList.isEmpty = false → readSide (strOfNums (textOf st lt)) = st ∧ readTiles (strOfNums (textOf st lt)) = lt) := by
    show _ → _
    intro he
    exact ⟨(read_back (text_right he)).1, (read_back (text_right he)).2.1⟩
  generalize strOfNums (textOf st lt) = ts at *
  have F5 := Lib.hid (KF.out _ _ hb5 F4.out)
  have G5 := Lib.hid (G4.out.on hb5)
  have Z5 := Lib.hid (Z4.out.on hb5)
  have T5 := Lib.hid (T4.out.on hb5)
  clear hb5 F4 G4 Z4 T4
  go_wp2_with fail
  -- a text that is read
  refine (drawRead_any a0 len0 cap0 w5 (by omega) F5.out.code).mono ?_
  rintro e w6 ⟨u, rfl, hu, hb6⟩
  have F6 := Lib.hid (KF.out _ _ hb6 F5.out)
  have G6 := Lib.hid (G5.out.on hb6)
  have Z6 := Lib.hid (Z5.out.on hb6)
  have T6 := Lib.hid (T5.out.on hb6)
  clear hb6 F5 G5 Z5 T5
  go_wp2_with fail
  refine (pRead_any u w6).mono ?_
  rintro e w7 ⟨A2, c2, rfl, ho7, hb7⟩
  have hMR := fun w => mRead_any u w (by omega)
  have HR1 : Hid (readCode u = 0 → gridRight (readSide u) (readTiles u) = true ∧ ((strOfNums (textOf (readSide u) (readTiles u))).toList == u.toList) = true) := read_text
  have hlen2 : (readTiles u).length ≤ 8000 := readTiles_le u
  generalize readSide u = S2 at *
  generalize readTiles u = L2 at *
  generalize readCode u = C2 at *
  have hb7' := hb7.trans ((below_alloc w7 (.cells #[.int .i64 S2, .slice A2 L2.length c2, .int .i64 C2] 29)).mono hb7.size)
  have F7 := Lib.hid (KF.out _ _ hb7' F6.out)
  have G7 := Lib.hid (G6.out.on hb7')
  have Z7 := Lib.hid (Z6.out.on hb7')
  have T7 := Lib.hid (T6.out.on hb7')
  have R7 := Lib.hid (Ge.made (side := S2) (A := A2) (c := c2) (l := L2) (code := C2) 29 ho7.ri)
  have hc2 := ho7.cap
  clear ho7 hb7 hb7' F6 G6 Z6 T6
  go_wp2_with fail
  generalize w7.alloc (.cells #[.int .i64 S2, .slice A2 L2.length c2, .int .i64 C2] 29) = W7 at *
  generalize w7.heap.size = br at *
  -- a tile that is asked for
  refine (drawTile_any a1 len1 cap1 W7 (by omega) F7.out.more).mono ?_
  rintro e w8 ⟨so, Ao, co, lo, xo, yo, rfl, hso, hxo, ho8, hb8⟩
  have hb8' := hb8.trans ((below_alloc w8 (.cells #[.int .i64 so, .slice Ao lo.length co] 25)).mono hb8.size)
  have F8 := Lib.hid (KF.out _ _ hb8' F7.out)
  have G8 := Lib.hid (G7.out.on hb8')
  have Z8 := Lib.hid (Z7.out.on hb8')
  have T8 := Lib.hid (T7.out.on hb8')
  have R8 := Lib.hid (R7.out.on hb8')
  have O8 := Lib.hid (Gd.made (side := so) (A := Ao) (c := co) (l := lo) 25 ho8.ri)
  have h65o := hso.2.2.1
  clear hso ho8 hb8 hb8' F7 G7 Z7 T7 R7
  go_wp2_with fail
  generalize w8.alloc (.cells #[.int .i64 so, .slice Ao lo.length co] 25) = W8 at *
  generalize w8.heap.size = bo at *
  -- two that are compared
  refine (drawSame_any a0 len0 cap0 W8 (by omega) F8.out.code).mono ?_
  rintro e w9 ⟨sa, Aa, ca, la, sb, Ab, cb, lb, rfl, hsa, hsb, ra, rb, hb9⟩
  have h65a := hsa.2.2.1
  have h65b := hsb.2.2.1
  -- behind the draws
  go_wp2_with fail
  have hb9' : Below W8.heap.size W8 ((w9.alloc (.cells #[.int .i64 sa, .slice Aa la.length ca] 25)).alloc (.cells #[.int .i64 sb, .slice Ab lb.length cb] 25)) := hb9.trans (((below_alloc w9 _).trans ((below_alloc _ _).mono (by simp))).mono hb9.size)
  have GA : Gd w9.heap.size sa Aa ca la ((w9.alloc (.cells #[.int .i64 sa, .slice Aa la.length ca] 25)).alloc (.cells #[.int .i64 sb, .slice Ab lb.length cb] 25)) := (Gd.made 25 ra).on (below_alloc _ _)
  have GBb : Gd (w9.heap.size + 1) sb Ab cb lb ((w9.alloc (.cells #[.int .i64 sa, .slice Aa la.length ca] 25)).alloc (.cells #[.int .i64 sb, .slice Ab lb.length cb] 25)) := by
    have := Gd.made (side := sb) (A := Ab) (c := cb) (l := lb) (w := w9.alloc (.cells #[.int .i64 sa, .slice Aa la.length ca] 25)) 25 (rb.on (below_alloc _ _))
    rw [alloc_size] at this
    exact this
  generalize ((w9.alloc (.cells #[.int .i64 sa, .slice Aa la.length ca] 25)).alloc (.cells #[.int .i64 sb, .slice Ab lb.length cb] 25)) = W9 at GA GBb hb9' ⊢
  generalize w9.heap.size + 1 = bb at GBb ⊢
  generalize w9.heap.size = ba at GA ⊢
  obtain ⟨P, HK, HP, p0⟩ : ∃ P : World → Prop, Hid (Kept P) ∧ Hid (∀ w', P w' → Gd bg sg Ag cg lg w' ∧ Ge bz S1 A1 c1 L1 C1 w' ∧ Gd bt st At ct lt w' ∧ Ge br S2 A2 c2 L2 C2 w' ∧ Gd bo so Ao co lo w' ∧ Gd ba sa Aa ca la w' ∧ Gd bb sb Ab cb lb w' ∧ FP w a0 a1 len0 len1 w' ) ∧ P W9.drew :=
    ⟨fun w' => Gd bg sg Ag cg lg w' ∧ Ge bz S1 A1 c1 L1 C1 w' ∧ Gd bt st At ct lt w' ∧ Ge br S2 A2 c2 L2 C2 w' ∧ Gd bo so Ao co lo w' ∧ Gd ba sa Aa ca la w' ∧ Gd bb sb Ab cb lb w' ∧ FP w a0 a1 len0 len1 w' , fun v v' hb h => ⟨h.1.on hb, h.2.1.on hb, h.2.2.1.on hb, h.2.2.2.1.on hb, h.2.2.2.2.1.on hb, h.2.2.2.2.2.1.on hb, h.2.2.2.2.2.2.1.on hb, KF.out _ _ hb h.2.2.2.2.2.2.2⟩, fun _ h => h,
      (G8.out.on hb9').on (Below.refl _ _).drew, (Z8.out.on hb9').on (Below.refl _ _).drew, (T8.out.on hb9').on (Below.refl _ _).drew, (R8.out.on hb9').on (Below.refl _ _).drew, (O8.out.on hb9').on (Below.refl _ _).drew, GA.on (Below.refl _ _).drew, GBb.on (Below.refl _ _).drew, KF.out _ _ (Below.refl _ _).drew (KF.out _ _ hb9' F8.out)⟩
  have HS : Hid (∀ w', P w' → w'.cell? ⟨bg, 0, none⟩ = some (.int .i64 sg) ∧ w'.cell? ⟨bg, 1, none⟩ = some (.slice Ag lg.length cg) ∧ w'.cell? ⟨bz, 0, none⟩ = some (.int .i64 S1) ∧ w'.cell? ⟨bz, 1, none⟩ = some (.slice A1 L1.length c1) ∧ w'.cell? ⟨bz, 2, none⟩ = some (.int .i64 C1) ∧ w'.cell? ⟨bt, 0, none⟩ = some (.int .i64 st) ∧ w'.cell? ⟨bt, 1, none⟩ = some (.slice At lt.length ct) ∧ w'.cell? ⟨br, 0, none⟩ = some (.int .i64 S2) ∧ w'.cell? ⟨br, 1, none⟩ = some (.slice A2 L2.length c2) ∧ w'.cell? ⟨br, 2, none⟩ = some (.int .i64 C2) ∧ w'.cell? ⟨bo, 0, none⟩ = some (.int .i64 so) ∧ w'.cell? ⟨bo, 1, none⟩ = some (.slice Ao lo.length co) ∧ w'.cell? ⟨ba, 0, none⟩ = some (.int .i64 sa) ∧ w'.cell? ⟨ba, 1, none⟩ = some (.slice Aa la.length ca) ∧ w'.cell? ⟨bb, 0, none⟩ = some (.int .i64 sb) ∧ w'.cell? ⟨bb, 1, none⟩ = some (.slice Ab lb.length cb)) := by
    show ∀ w', P w' → _
    intro w' h
    obtain ⟨hg, hz, ht, hr, ho, ha, hb, _⟩ := HP.out w' h
    exact ⟨hg.c0, hg.c1, hz.c0, hz.c1, hz.c2, ht.c0, ht.c1, hr.c0, hr.c1, hr.c2, ho.c0, ho.c1, ha.c0, ha.c1, hb.c0, hb.c1⟩
  have HG : Hid (∀ w', P w' → RI w' w'.heap.size Ag lg) := fun w' h => (HP.out w' h).1.ri
  have HZ : Hid (∀ w', P w' → RI w' w'.heap.size A1 L1) := fun w' h => (HP.out w' h).2.1.ri
  have HT : Hid (∀ w', P w' → RI w' w'.heap.size At lt) := fun w' h => (HP.out w' h).2.2.1.ri
  have HRd : Hid (∀ w', P w' → RI w' w'.heap.size A2 L2) := fun w' h => (HP.out w' h).2.2.2.1.ri
  have HO : Hid (∀ w', P w' → RI w' w'.heap.size Ao lo) := fun w' h => (HP.out w' h).2.2.2.2.1.ri
  have HA : Hid (∀ w', P w' → RI w' w'.heap.size Aa la) := fun w' h => (HP.out w' h).2.2.2.2.2.1.ri
  have HB : Hid (∀ w', P w' → RI w' w'.heap.size Ab lb) := fun w' h => (HP.out w' h).2.2.2.2.2.2.1.ri
  have hkeep := HS.out _ p0
  clear GA GBb hb9 hb9' ra rb F8 G8 Z8 T8 R8 O8
  have hN3 := fun w => pGridNew_any sn tn w
  have hN4 := fun w => mGridNew_any sn tn w
  have HN5 : Hid (newCode sn tn = 0 → gridRight (newSide sn tn) (newTiles sn tn) = true) := new_ok
  have hlen3 := newTiles_le sn tn
  generalize newSide sn tn = S3 at hN3 hN4 HN5
  generalize newTiles sn tn = L3 at hN3 hN4 HN5 hlen3
  generalize newCode sn tn = C3 at hN3 hN4 HN5
  have hTI := fun w h => pTileAt_any so xo yo Ao co lo w h (by omega) (by unfold In64; omega) (by unfold In64; omega)
  have hTM := fun w h => mTileAt_any so xo yo Ao co lo w h (by omega)
  generalize tileAt so lo xo yo = q1 at hTI hTM
  have hSI := fun w h h' => pSameGrid_any sa sb Aa Ab ca cb la lb w h h' (by omega) (by omega)
  have hSM := fun w h h' => mSameGrid_any sa sb Aa Ab ca cb la lb w h h' (by omega) (by omega)
  generalize sameGrid sa sb la lb = q2 at hSI hSM
  have hRI := fun w h => pRight_any sg Ag cg lg w h (by omega)
  have hRM := fun w h => mRight_any sg Ag cg lg w h (by omega)
  generalize gridRight sg lg = q3 at hRI hRM
  go_cut [133] from 74 to 133 (fun c wx => c = .bool false ∧ P wx)
  case first =>
    go_region_held3 (fun w' => w'.cell? ⟨bg, 0, none⟩ = some (.int .i64 sg) ∧ w'.cell? ⟨bg, 1, none⟩ = some (.slice Ag lg.length cg) ∧ w'.cell? ⟨bz, 0, none⟩ = some (.int .i64 S1) ∧ w'.cell? ⟨bz, 1, none⟩ = some (.slice A1 L1.length c1) ∧ w'.cell? ⟨bz, 2, none⟩ = some (.int .i64 C1) ∧ w'.cell? ⟨bt, 0, none⟩ = some (.int .i64 st) ∧ w'.cell? ⟨bt, 1, none⟩ = some (.slice At lt.length ct) ∧ w'.cell? ⟨br, 0, none⟩ = some (.int .i64 S2) ∧ w'.cell? ⟨br, 1, none⟩ = some (.slice A2 L2.length c2) ∧ w'.cell? ⟨br, 2, none⟩ = some (.int .i64 C2) ∧ w'.cell? ⟨bo, 0, none⟩ = some (.int .i64 so) ∧ w'.cell? ⟨bo, 1, none⟩ = some (.slice Ao lo.length co) ∧ w'.cell? ⟨ba, 0, none⟩ = some (.int .i64 sa) ∧ w'.cell? ⟨ba, 1, none⟩ = some (.slice Aa la.length ca) ∧ w'.cell? ⟨bb, 0, none⟩ = some (.int .i64 sb) ∧ w'.cell? ⟨bb, 1, none⟩ = some (.slice Ab lb.length cb))
      (first
        | go_keep
        | exact hkeep)
      (first
        | (go_at_call 18; refine (lwGrids_any S2 C2 A2 A7 c2 c7 L2 v7 (HRd.out _ p7) r7 (by omega) (fun h => (HR1.out h).1)).mono ?_; rintro e v8 ⟨rfl, hb⟩; clear hkeep; have p8 := HK.out _ _ hb p7; have hkeep := HS.out _ p8; clear hb)
        | (go_at_call 18; refine (lwGrids_any S3 C3 A3 A4 c3 c4 L3 v4 r3 r4 (by omega) HN5.out).mono ?_; rintro e v5 ⟨rfl, hb⟩; clear hkeep; have p5 := HK.out _ _ hb p4; have hkeep := HS.out _ p5; clear hb)
        | (go_at_call 18; refine (lwGrids_any S1 C1 A1 A1p c1 c1p L1 v1 (HZ.out _ p1) rA (by omega) HF1.out).mono ?_; rintro e v2 ⟨rfl, hb⟩; clear hkeep; have p2 := HK.out _ _ hb p1; have hkeep := HS.out _ p2; clear hb)
        | (go_at_call 19; refine (hM1 W9.drew (HG.out _ p0)).mono ?_; rintro e v1 ⟨A1p, c1p, rfl, hoA, hb⟩; clear hkeep; have p1 := HK.out _ _ hb p0; have hkeep := HS.out _ p1; have rA := hoA.ri; clear hb hoA)
        | (go_at_call 20; refine (hN3 v2).mono ?_; rintro e v3 ⟨A3, c3, rfl, ho3, hb⟩; clear hkeep; have p3 := HK.out _ _ hb p2; have hkeep := HS.out _ p3; clear hb)
        | (go_at_call 21; refine (hN4 v3).mono ?_; rintro e v4 ⟨A4, c4, rfl, ho4, hb⟩; clear hkeep; have p4 := HK.out _ _ hb p3; have hkeep := HS.out _ p4; have r3 := (ho3.keep hb).ri; have r4 := ho4.ri; clear hb)
        | (go_at_call 22; refine (hMT v5 (HT.out _ p5)).mono ?_; rintro e v6 ⟨rfl, hb⟩; clear hkeep; have p6 := HK.out _ _ hb p5; have hkeep := HS.out _ p6; clear hb)
        | (go_at_call 23; refine (hMR v6).mono ?_; rintro e v7 ⟨A7, c7, rfl, ho7, hb⟩; clear hkeep; have p7 := HK.out _ _ hb p6; have hkeep := HS.out _ p7; have r7 := ho7.ri; clear hb)
        | (go_at_call 24; refine (hTI v8 (HO.out _ p8)).mono ?_; rintro e v9 ⟨rfl, hb⟩; clear hkeep; have p9 := HK.out _ _ hb p8; have hkeep := HS.out _ p9; clear hb)
        | (go_at_call 25; refine (hTM v9 (HO.out _ p9)).mono ?_; rintro e v10 ⟨rfl, hb⟩; clear hkeep; have p10 := HK.out _ _ hb p9; have hkeep := HS.out _ p10; clear hb)
        | (go_at_call 26; refine (hSI v10 (HA.out _ p10) (HB.out _ p10)).mono ?_; rintro e v11 ⟨rfl, hb⟩; clear hkeep; have p11 := HK.out _ _ hb p10; have hkeep := HS.out _ p11; clear hb)
        | (go_at_call 27; refine (hSM v11 (HA.out _ p11) (HB.out _ p11)).mono ?_; rintro e v12 ⟨rfl, hb⟩; clear hkeep; have p12 := HK.out _ _ hb p11; have hkeep := HS.out _ p12; clear hb)
        | (go_at_call 28; refine (hRI v12 (HG.out _ p12)).mono ?_; rintro e v13 ⟨rfl, hb⟩; clear hkeep; have p13 := HK.out _ _ hb p12; have hkeep := HS.out _ p13; clear hb)
        | (go_at_call 29; refine (hRM v13 (HG.out _ p13)).mono ?_; rintro e v14 ⟨rfl, hb⟩; clear hkeep; have p14 := HK.out _ _ hb p13; have hkeep := HS.out _ p14; clear hb))
    go_wp2_with fail
    go_meet
    exact ⟨rfl, p14⟩
  case rest =>
    obtain ⟨rfl, p14⟩ := hcut
    rename_i hcutu
    clear hkeep p0 HS hM1 hMT hMR hN3 hN4 HN5 hTI hTM hSI hSM hRI hRM HO HA HB
    have g1 := (HP.out _ p14).2.2.1.c0
    have g2 := (HP.out _ p14).2.2.1.c1
    have g3 := (HP.out _ p14).2.2.2.1.c0
    have g4 := (HP.out _ p14).2.2.2.1.c1
    have g5 := (HP.out _ p14).2.2.2.1.c2
    have pv := HK.out _ _ (Below.refl wc.heap.size wc).drew p14
    have HS2 : Hid (∀ w', P w' → w'.cell? ⟨bt, 0, none⟩ = some (.int .i64 st) ∧ w'.cell? ⟨bt, 1, none⟩ = some (.slice At lt.length ct) ∧ w'.cell? ⟨br, 0, none⟩ = some (.int .i64 S2) ∧ w'.cell? ⟨br, 1, none⟩ = some (.slice A2 L2.length c2) ∧ w'.cell? ⟨br, 2, none⟩ = some (.int .i64 C2)) := by
      show ∀ w', P w' → _
      intro w' h
      obtain ⟨_, _, ht, hr, _, _, _, _⟩ := HP.out w' h
      exact ⟨ht.c0, ht.c1, hr.c0, hr.c1, hr.c2⟩
    have hkeep := HS2.out _ pv
    go_wp2_with fail
    go_cut [155] from 134 to 155 (fun c wx => c = .bool false ∧ P wx)
    case first =>
      cases hq5 : ts.toList.isEmpty
      · obtain ⟨hb1, hb2⟩ := HRB.out hq5
        have hIR := fun w => pRead_any ts w
        rw [hb1, hb2] at hIR
        generalize readCode ts = C4 at hIR
        have hfd := field_grid
        clear hb1 hb2
        by_cases hc : C2 = 0
        · have hq2 : (C2 == 0) = true := by simpa using hc
          have hxu := (HR1.out hc).2
          have hTX := fun w h => pText_any S2 A2 c2 L2 w h (by omega) hc2
          generalize strOfNums (textOf S2 L2) = tx at hxu hTX
          clear hc
          go_wp2_with fail
          go_region_held3 (fun w' => w'.cell? ⟨bt, 0, none⟩ = some (.int .i64 st) ∧ w'.cell? ⟨bt, 1, none⟩ = some (.slice At lt.length ct) ∧ w'.cell? ⟨br, 0, none⟩ = some (.int .i64 S2) ∧ w'.cell? ⟨br, 1, none⟩ = some (.slice A2 L2.length c2) ∧ w'.cell? ⟨br, 2, none⟩ = some (.int .i64 C2))
            (first
              | go_keep
              | exact hkeep)
            (first
              | (go_at_call 30; refine (lwGrid_any st A5 At c5 ct lt x1 r5 (HT.out _ q1) (by omega)).mono ?_; rintro e x2 ⟨rfl, hb⟩; clear hkeep; have q2 := HK.out _ _ hb q1; have hkeep := HS2.out _ q2; clear hb)
              | (go_at_call 15; refine (hIR wc.drew).mono ?_; rintro e x1 ⟨A5, c5, rfl, ho5, hb⟩; clear hkeep; have q1 := HK.out _ _ hb pv; have hkeep := HS2.out _ q1; have r5 := ho5.ri; clear hb ho5)
              | (go_at_call 13; refine (hTX x2 (HRd.out _ q2)).mono ?_; rintro e x3 ⟨rfl, hb⟩; clear hkeep; have q3 := HK.out _ _ hb q2; have hkeep := HS2.out _ q3; clear hb))
          all_goals
            go_wp2_with fail
            go_meet
            exact ⟨rfl, q3⟩
        · have hq2 : (C2 == 0) = false := by simpa using hc
          clear hc hkeep
          go_wp2_with fail
          first
            | (go_region_with
                (first
                  | (go_at_call 30; refine (lwGrid_any st A5 At c5 ct lt x1 r5 (HT.out _ q1) (by omega)).mono ?_; rintro e x2 ⟨rfl, hb⟩; have q2 := HK.out _ _ hb q1; have l1 := (HP.out _ q2).2.2.1.c0; have l2 := (HP.out _ q2).2.2.1.c1; have l3 := (HP.out _ q2).2.2.2.1.c2; clear hb)
                  | (go_at_call 15; refine (hIR _).mono ?_; rintro e x1 ⟨A5, c5, rfl, ho5, hb⟩; have q1 := HK.out _ _ hb pv; have r5 := ho5.ri; have k1 := (HP.out _ q1).2.2.1.c0; have k2 := (HP.out _ q1).2.2.1.c1; have k3 := (HP.out _ q1).2.2.2.1.c2; clear hb ho5)))
            | fail
          all_goals
            go_wp2_with fail
            go_meet
            exact ⟨rfl, q2⟩
      · have hq6 : (!ts.toList.isEmpty) = false := by rw [hq5]; rfl
        by_cases hc : C2 = 0
        · have hq2 : (C2 == 0) = true := by simpa using hc
          have hxu := (HR1.out hc).2
          have hTX := fun w h => pText_any S2 A2 c2 L2 w h (by omega) hc2
          generalize strOfNums (textOf S2 L2) = tx at hxu hTX
          clear hc hkeep
          go_wp2_with fail
          first
            | (go_region_with
                (first
                  | (go_at_call 13; refine (hTX wc.drew (HRd.out _ pv)).mono ?_; rintro e x3 ⟨rfl, hb⟩; have q3 := HK.out _ _ hb pv; have m1 := (HP.out _ q3).2.2.2.1.c0; have m2 := (HP.out _ q3).2.2.2.1.c1; have m3 := (HP.out _ q3).2.2.2.1.c2; clear hb)))
            | fail
          all_goals
            go_wp2_with fail
            go_meet
            exact ⟨rfl, q3⟩
        · have hq2 : (C2 == 0) = false := by simpa using hc
          clear hc hkeep
          go_wp2_with fail
          go_region
          all_goals
            go_wp2_with fail
            go_meet
            exact ⟨rfl, pv⟩
    case rest =>
      obtain ⟨rfl, pf⟩ := hcut
      clear hkeep pv p14 g1 g2 g3 g4 g5 HRB HR1 HS2 HT HRd
      have z0 := (HP.out _ pf).2.1.c0
      have z1 := (HP.out _ pf).2.1.c1
      have z2 := (HP.out _ pf).2.1.c2
      have HPF := Lib.hid pf
      by_cases hC : C1 = 0
      · have hq1 : (C1 != 0) = false := by simpa using hC
        obtain ⟨hS, s1, s8, ⟨u1, u2, u3, u4, u5, u6⟩, htile⟩ := HF2.out hC
        subst hS
        have HTI := Lib.hid htile
        have e1 : IntKind.i64.wrap (x + wd) = x + wd := IntWalk.i64_in _ (by omega)
        have e2 : IntKind.i64.wrap (y + ht) = y + ht := IntWalk.i64_in _ (by omega)
        clear htile hC HF2 HF1
        have y0 := (HP.out _ HPF.out).1.c0
        have y1 := (HP.out _ HPF.out).1.c1
        go_wp2
        go_loopw [23] (fun v wr => ∃ j : Nat, v = .int .i64 j ∧ (j : Int) ≤ S1 ∧ P wr) (fun v _ => S1.toNat - (intOf v).toNat)
        case atStart => exact ⟨0, rfl, by omega, HPF.out⟩
        case round =>
          obtain ⟨j, rfl, hj, pw⟩ := hrel
          have HPW := Lib.hid pw
          clear y0 y1 z0 z1 z2
          have y0 := (HP.out _ pw).1.c0
          have y1 := (HP.out _ pw).1.c1
          by_cases hjl : (j : Int) < S1
          · go_wp2
            go_loopw [24] (fun v wr => ∃ i : Nat, v = .int .i64 i ∧ (i : Int) ≤ S1 ∧ P wr) (fun v _ => S1.toNat - (intOf v).toNat)
            case atStart => exact ⟨0, rfl, by omega, HPW.out⟩
            case round =>
              obtain ⟨i, rfl, hi, pi⟩ := hrel
              have HPI := Lib.hid pi
              clear y0 y1
              have y0 := (HP.out _ pi).1.c0
              have y1 := (HP.out _ pi).1.c1
              by_cases hil : (i : Int) < S1
              · have hval := HTI.out i j ⟨by omega, hil⟩ ⟨by omega, hjl⟩
                have hSp := fun w h => mTileAt_any S1 i j Ag cg lg w h (by omega)
                have hIm := fun w h => pTileAt_any S1 i j A1 c1 L1 w h (by omega) (by unfold In64; omega) (by unfold In64; omega)
                rw [hval] at hIm
                clear hval
                generalize tileAt S1 lg i j = T at *
                go_wp2_with fail
                refine (hSp _ (HG.out _ HPI.out)).mono ?_
                rintro e x1 ⟨rfl, hbx⟩
                have px := HK.out _ _ hbx HPI.out
                have HPX := Lib.hid px
                have z0 := (HP.out _ px).2.1.c0
                have z1 := (HP.out _ px).2.1.c1
                have z2 := (HP.out _ px).2.1.c2
                clear hbx px y0 y1
                by_cases d1 : x ≤ (i : Int)
                · by_cases d2 : (i : Int) < x + wd
                  · by_cases d3 : y ≤ (j : Int)
                    · by_cases d4 : (j : Int) < y + ht
                      · rw [if_pos ⟨d1, d2, d3, d4⟩] at hIm
                        go_wp2_with fail
                        refine (hIm _ (HZ.out _ HPX.out)).mono ?_
                        rintro e x2 ⟨rfl, hbx⟩
                        have HPY := Lib.hid (HK.out _ _ hbx HPX.out)
                        clear hbx
                        go_wp2
                        go_roundw
                        case rel => exact ⟨i + 1, by go_num, by omega, HPY.out⟩
                        case measure => simp [intOf]; omega
                      · rw [if_neg (fun h => d4 h.2.2.2)] at hIm
                        go_wp2_with fail
                        refine (hIm _ (HZ.out _ HPX.out)).mono ?_
                        rintro e x2 ⟨rfl, hbx⟩
                        have HPY := Lib.hid (HK.out _ _ hbx HPX.out)
                        clear hbx
                        go_wp2
                        go_roundw
                        case rel => exact ⟨i + 1, by go_num, by omega, HPY.out⟩
                        case measure => simp [intOf]; omega
                    · rw [if_neg (fun h => d3 h.2.2.1)] at hIm
                      go_wp2_with fail
                      refine (hIm _ (HZ.out _ HPX.out)).mono ?_
                      rintro e x2 ⟨rfl, hbx⟩
                      have HPY := Lib.hid (HK.out _ _ hbx HPX.out)
                      clear hbx
                      go_wp2
                      go_roundw
                      case rel => exact ⟨i + 1, by go_num, by omega, HPY.out⟩
                      case measure => simp [intOf]; omega
                  · rw [if_neg (fun h => d2 h.2.1)] at hIm
                    go_wp2_with fail
                    refine (hIm _ (HZ.out _ HPX.out)).mono ?_
                    rintro e x2 ⟨rfl, hbx⟩
                    have HPY := Lib.hid (HK.out _ _ hbx HPX.out)
                    clear hbx
                    go_wp2
                    go_roundw
                    case rel => exact ⟨i + 1, by go_num, by omega, HPY.out⟩
                    case measure => simp [intOf]; omega
                · rw [if_neg (fun h => d1 h.1)] at hIm
                  go_wp2_with fail
                  refine (hIm _ (HZ.out _ HPX.out)).mono ?_
                  rintro e x2 ⟨rfl, hbx⟩
                  have HPY := Lib.hid (HK.out _ _ hbx HPX.out)
                  clear hbx
                  go_wp2
                  go_roundw
                  case rel => exact ⟨i + 1, by go_num, by omega, HPY.out⟩
                  case measure => simp [intOf]; omega
              · go_wp2
                go_roundw
                case rel => exact ⟨j + 1, by go_num, by omega, HPI.out⟩
                case measure => simp [intOf]; omega
          · go_wp2
            go_ret
            exact ⟨rfl, (HP.out _ HPW.out).2.2.2.2.2.2.2.from_.2⟩
      · have hq1 : (C1 != 0) = true := by simpa using hC
        clear hC
        go_wp2
        go_ret
        exact ⟨rfl, (HP.out _ HPF.out).2.2.2.2.2.2.2.from_.2⟩
end Go.Proofs.Ytcadjfnfjakbeaa
