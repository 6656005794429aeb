/- The program's pools: PoolGet. -/
import Derived.Test.YthhadbojepcdjaaDoorTlP
import Derived.Test.YthhadbojepcdjaaDoorTlH
import Derived.Test.YthhadbojepcdjaaDoorTbP
import Derived.Test.YthhadbojepcdjaaDoorPgQ
namespace Go.Proofs.YthhadbojepcdjaaDoor
open Go.RowKit
set_option linter.unusedVariables false
set_option linter.unusedSimpArgs false

theorem side_pow {side : Int} (h : sideOk side = true) : ∃ d : Nat, d ≤ 3 ∧ side = ((2 ^ d : Nat) : Int) ∧ dbl side.toNat = d := by
  rcases (sideOk_iff side).1 h with rfl | rfl | rfl | rfl
  · exact ⟨0, by decide, rfl, rfl⟩
  · exact ⟨1, by decide, rfl, rfl⟩
  · exact ⟨2, by decide, rfl, rfl⟩
  · exact ⟨3, by decide, rfl, rfl⟩
theorem getTo_step (l : List Nd) (d root x y z : Nat) (hz : 2 ^ d = z) (hx : x < z) : getTo l d root (y * z + x + 1) = getTo l d root (y * z + x) ++ [tileN l d root x y] := by
  rw [getTo, hz, Nat.mul_comm y z, Nat.mul_add_mod, Nat.mod_eq_of_lt hx, Nat.mul_add_div (by omega), Nat.div_eq_of_lt hx, Nat.add_zero]

set_option maxRecDepth 100000 in
set_option maxHeartbeats 4000000 in
theorem pPoolGet_any (A : Option Addr) (c : Nat) (l : List Nd) (rt side : Int) (w : World) (h : RN w w.heap.size A l) (hl : l.length ≤ 1048576) (hc : l.length ≤ c) (hf : ∀ n ∈ l, n.Fits) (htab : HasTab w) :
    Calls Tryd.prog 10 #[.agg #[.slice A l.length c], .int .i64 rt, .int .i64 side] w fun e w' => GOut w w' (getP l rt side).2.1 (getP l rt side).2.2 (getP l rt side).1 e := by
  obtain ⟨i0, hi, hz0, hz1, hz2⟩ := info_parts Tryd.infoInt
  have hbw : Below w.heap.size w ((w.alloc (.cells #[.slice A l.length c] 25)).alloc (.cells #[.int .i64 0, .slice none 0 0, .int .i64 0] 37)) := ((Below.refl _ _).alloc (Nat.le_refl _) _).alloc (by simp) _
  have HT0 := Lib.hid (htab.below hbw)
  have HP0 := Lib.hid ((PB.made w A c l h).below ((Below.refl _ _).alloc (Nat.le_refl _) (.cells #[.int .i64 0, .slice none 0 0, .int .i64 0] 37)))
  have HY0 : Hid (GO ((w.alloc (.cells #[.slice A l.length c] 25)).alloc (.cells #[.int .i64 0, .slice none 0 0, .int .i64 0] 37)) (w.heap.size + 1)) := by
    have := GO.made (w.alloc (.cells #[.slice A l.length c] 25)) 37
    rw [alloc_size] at this
    exact this
  have hPR := fun w h => pPoolRight_any A c l w h hl hc hf
  have hSd := pSide_any side
  have hTh := fun w => pThere_any A l.length c rt w
  clear h hbw htab hf
  cases hr : poolRight l
  · have HE : Hid (getP l rt side = (1, 0, [])) := by show _ = _; simp [getP, hr]
    rw [HE.out]
    rw [hr] at hPR
    clear hr
    go_enter Tryd.func10, Tryd.ntmps10
    go_wp2_with fail
    refine (hPR _ HP0.out.rn).mono ?_
    rintro e w1 ⟨rfl, hb1⟩
    have HP1 := Lib.hid (HP0.out.below hb1)
    have HY1 := Lib.hid (HY0.out.below hb1 (by simp))
    have HT1 := Lib.hid (HT0.out.below hb1)
    have hz1' : w.heap.size + 1 < w1.heap.size := by have := hb1.size; simp at this; omega
    clear hb1 HP0 HY0 HT0
    obtain ⟨c0, c1, c2, f0, f1, f2⟩ := HY1.out
    go_wp2
    refine bodyPost_ret (v := .agg #[.int .i64 0, .slice none 0 0, .int .i64 1]) (by simp [results, Tryd.results10, go_sem, c0, c1, c2]) rfl ?_
    exact ⟨none, 0, rfl, OwnI.nil _ _ _ _, ((HP1.out.bel.setCell (by simp) _).setCell (by simp) _).setCell (by simp) _⟩
  · have HR := Lib.hid hr
    rw [hr] at hPR
    cases hs : sideOk side
    · have HE : Hid (getP l rt side = (1, 0, [])) := by show _ = _; simp [getP, hs]
      rw [HE.out]
      rw [hs] at hSd
      clear hr hs
      go_enter Tryd.func10, Tryd.ntmps10
      go_wp2_with fail
      refine (hPR _ HP0.out.rn).mono ?_
      rintro e w1 ⟨rfl, hb1⟩
      have HP1 := Lib.hid (HP0.out.below hb1)
      have HY1 := Lib.hid (HY0.out.below hb1 (by simp))
      have HT1 := Lib.hid (HT0.out.below hb1)
      have hz1' : w.heap.size + 1 < w1.heap.size := by have := hb1.size; simp at this; omega
      clear hb1 HP0 HY0 HT0
      go_wp2_with fail
      refine (hSd _).mono ?_
      rintro e w2 ⟨rfl, rfl⟩
      have p0 := HP1.out.c0
      obtain ⟨c0, c1, c2, f0, f1, f2⟩ := HY1.out
      go_wp2
      refine bodyPost_ret (v := .agg #[.int .i64 0, .slice none 0 0, .int .i64 1]) (by simp [results, Tryd.results10, go_sem, c0, c1, c2]) rfl ?_
      exact ⟨none, 0, rfl, OwnI.nil _ _ _ _, ((HP1.out.bel.setCell (by simp) _).setCell (by simp) _).setCell (by simp) _⟩
    · have HE : Hid (getP l rt side = getG l rt side) := by show _ = _; simp [getP, hr, hs]
      rw [HE.out]
      rw [hs] at hSd
      cases ht : thereN l.length rt
      · have HE2 : Hid (getG l rt side = (6, 0, [])) := by show _ = _; simp [getG, ht]
        rw [HE2.out]
        rw [ht] at hTh
        clear hr hs ht
        go_enter Tryd.func10, Tryd.ntmps10
        go_wp2_with fail
        refine (hPR _ HP0.out.rn).mono ?_
        rintro e w1 ⟨rfl, hb1⟩
        have HP1 := Lib.hid (HP0.out.below hb1)
        have HY1 := Lib.hid (HY0.out.below hb1 (by simp))
        have HT1 := Lib.hid (HT0.out.below hb1)
        have hz1' : w.heap.size + 1 < w1.heap.size := by have := hb1.size; simp at this; omega
        clear hb1 HP0 HY0 HT0
        go_wp2_with fail
        refine (hSd _).mono ?_
        rintro e w2 ⟨rfl, rfl⟩
        have p0 := HP1.out.c0
        go_wp2_with fail
        refine (hTh _).mono ?_
        rintro e w2 ⟨rfl, rfl⟩
        obtain ⟨c0, c1, c2, f0, f1, f2⟩ := HY1.out
        go_wp2
        refine bodyPost_ret (v := .agg #[.int .i64 0, .slice none 0 0, .int .i64 6]) (by simp [results, Tryd.results10, go_sem, c0, c1, c2]) rfl ?_
        exact ⟨none, 0, rfl, OwnI.nil _ _ _ _, ((HP1.out.bel.setCell (by simp) _).setCell (by simp) _).setCell (by simp) _⟩
      · rw [ht] at hTh
        have h2 : 0 ≤ rt ∧ rt < l.length := by simp [thereN, inIs] at ht; omega
        obtain ⟨root, rfl⟩ := Int.eq_ofNat_of_zero_le h2.1
        have hk : root < l.length := by omega
        have HTH := Lib.hid ht
        obtain ⟨d, hd, rfl, hdb⟩ := side_pow hs
        have HDB := Lib.hid hdb
        have hHo := fun w h => pHeightOf_any A c l root w h HR.out hk
        have hDb := fun w h => pDoublings_any d hd w h
        have HT0_ := Lib.hid (fun x y (hx : x < 2 ^ d) (hy : y < 2 ^ d) (hh : (hts l).getD root 0 ≤ d) w h => pTileBelow_any A c l w h HR.out d root x y hd hk hh hx hy)
        have hzp : 1 ≤ 2 ^ d := Nat.one_le_two_pow
        have hz8 : 2 ^ d ≤ 2 ^ 3 := Nat.pow_le_pow_right (by omega) hd
        have hd3 : (d : Int) ≤ 3 := by omega
        clear ht h2 hdb hr hs hd
        generalize hzz : 2 ^ d = z at *
        have HZ := Lib.hid hzz
        have hz9 : (z : Int) ≤ 8 := by omega
        clear hzz hz8
        by_cases hh : (hts l).getD root 0 ≤ (d : Int)
        case neg =>
          have HE2 : Hid (getG l (root : Int) (z : Int) = (8, 0, [])) := by
            show _ = _
            rw [getG, HTH.out, if_pos rfl, HDB.out, if_neg (by simpa using hh)]
          have hhb : decide ((d : Int) < (hts l).getD root 0) = true := decide_eq_true (by omega)
          generalize (hts l).getD root 0 = hv at *
          go_enter Tryd.func10, Tryd.ntmps10
          go_wp2_with fail
          refine (hPR _ HP0.out.rn).mono ?_
          rintro e w1 ⟨rfl, hb1⟩
          have HP1 := Lib.hid (HP0.out.below hb1)
          have HY1 := Lib.hid (HY0.out.below hb1 (by simp))
          have HT1 := Lib.hid (HT0.out.below hb1)
          have hz1' : w.heap.size + 1 < w1.heap.size := by have := hb1.size; simp at this; omega
          clear hb1 HP0 HY0 HT0
          go_wp2_with fail
          refine (hSd _).mono ?_
          rintro e w2 ⟨rfl, rfl⟩
          have p0 := HP1.out.c0
          go_wp2_with fail
          refine (hTh _).mono ?_
          rintro e w2 ⟨rfl, rfl⟩
          go_wp2_with fail
          refine (hHo _ HP1.out.rn).mono ?_
          rintro e w3 ⟨rfl, hb3⟩
          have HP3 := Lib.hid (HP1.out.below hb3)
          have HY3 := Lib.hid (HY1.out.below hb3 hz1')
          have HT3 := Lib.hid (HT1.out.below hb3)
          have hz3' : w.heap.size + 1 < w3.heap.size := Nat.lt_of_lt_of_le hz1' hb3.size
          clear hb3 p0 HP1 HY1 HT1
          go_wp2_with fail
          refine (hDb _ HT3.out).mono ?_
          rintro e w4 ⟨rfl, rfl⟩
          obtain ⟨c0, c1, c2, f0, f1, f2⟩ := HY3.out
          go_wp2
          refine bodyPost_ret (v := .agg #[.int .i64 0, .slice none 0 0, .int .i64 8]) (by simp [results, Tryd.results10, go_sem, c0, c1, c2]) rfl ?_
          rw [HE2.out]
          exact ⟨none, 0, rfl, OwnI.nil _ _ _ _, ((HP3.out.bel.setCell (by simp) _).setCell (by simp) _).setCell (by simp) _⟩
        have HE2 : Hid (getG l (root : Int) (z : Int) = ((0 : Int), (z : Int), getTo l d root (z * z))) := by
          show _ = _
          rw [getG, HTH.out, if_pos rfl, HDB.out, if_pos (by simpa using hh)]
          rfl
        have HHH := Lib.hid hh
        have hhb : decide ((d : Int) < (hts l).getD root 0) = false := decide_eq_false (by omega)
        generalize (hts l).getD root 0 = hv at *
        go_enter Tryd.func10, Tryd.ntmps10
        go_wp2_with fail
        refine (hPR _ HP0.out.rn).mono ?_
        rintro e w1 ⟨rfl, hb1⟩
        have HP1 := Lib.hid (HP0.out.below hb1)
        have HY1 := Lib.hid (HY0.out.below hb1 (by simp))
        have HT1 := Lib.hid (HT0.out.below hb1)
        have hz1' : w.heap.size + 1 < w1.heap.size := by have := hb1.size; simp at this; omega
        clear hb1 HP0 HY0 HT0
        go_wp2_with fail
        refine (hSd _).mono ?_
        rintro e w2 ⟨rfl, rfl⟩
        have p0 := HP1.out.c0
        go_wp2_with fail
        refine (hTh _).mono ?_
        rintro e w2 ⟨rfl, rfl⟩
        go_wp2_with fail
        refine (hHo _ HP1.out.rn).mono ?_
        rintro e w3 ⟨rfl, hb3⟩
        have HP3 := Lib.hid (HP1.out.below hb3)
        have HY3 := Lib.hid (HY1.out.below hb3 hz1')
        have HT3 := Lib.hid (HT1.out.below hb3)
        have hz3' : w.heap.size + 1 < w3.heap.size := Nat.lt_of_lt_of_le hz1' hb3.size
        clear hb3 p0 HP1 HY1 HT1
        go_wp2_with fail
        refine (hDb _ HT3.out).mono ?_
        rintro e w4 ⟨rfl, rfl⟩
        have HI0 : Hid (GI w A c l w3.heap.size z (.slice none 0 0) [] (w3.alloc (.cells #[.int .i64 z, .slice none 0 0] 28))) :=
          ⟨HP3.out.below ((Below.refl _ _).alloc (Nat.le_refl _) _), HY3.out.below ((Below.refl (w3.heap.size) _).alloc (Nat.le_refl _) _) hz3', GB.made _ _ _ _, OwnI.nil _ _ _ _, ⟨hz3', by simp⟩, by simp [Value.ownBlock]⟩
        clear HP3 HY3 HT3
        go_wp2
        clear hhb hh
        generalize w3.alloc (.cells #[.int .i64 z, .slice none 0 0] 28) = w5 at *
        generalize hqq : w3.heap.size = q at *
        clear hqq
        go_loopw [36] (fun i wr => ∃ (y : Nat) (A2 : Option Addr) (c2 : Nat), i = .int .i64 y ∧ y ≤ z ∧ GI w A c l q z (.slice A2 (getTo l d root (y * z)).length c2) (getTo l d root (y * z)) wr) (fun i _ => z - (intOf i).toNat)
        case atStart => exact ⟨0, none, 0, rfl, Nat.zero_le _, by rw [Nat.zero_mul]; exact HI0.out⟩
        case round =>
          obtain ⟨y, A1, c1_, rfl, hy, hgi⟩ := hrel
          have HI := Lib.hid hgi
          clear HI0 hgi
          by_cases hyl : y < z
          · have hyz : (y : Int) < z := by omega
            go_wp2
            go_loopw [40] (fun i wr => ∃ (x : Nat) (A2 : Option Addr) (c2 : Nat), i = .int .i64 x ∧ x ≤ z ∧ GI w A c l q z (.slice A2 (getTo l d root (y * z + x)).length c2) (getTo l d root (y * z + x)) wr) (fun i _ => z - (intOf i).toNat)
            case atStart => exact ⟨0, A1, c1_, rfl, Nat.zero_le _, HI.out⟩
            case round =>
              obtain ⟨x, A2, c2, rfl, hx, hgi⟩ := hrel
              have HI2 := Lib.hid hgi
              clear HI hgi
              by_cases hxl : x < z
              · have hxz : (x : Int) < z := by omega
                have hT := HT0_.out x y hxl hyl HHH.out
                have HST := Lib.hid (getTo_step l d root x y z HZ.out hxl)
                have hle : (getTo l d root (y * z + x)).length ≤ 1000000 := by
                  rw [getTo_len]
                  have : y * z ≤ 8 * 8 := Nat.mul_le_mul (by omega) (by omega)
                  omega
                generalize hKK : y * z + x = kk at *
                have HKK := Lib.hid hKK
                generalize tileN l d root x y = t at *
                have HId := Lib.hid HI2.out.drew
                have p0 := HI2.out.pb.c0
                obtain ⟨m0, m1, _, mf1⟩ := HI2.out.m
                clear hKK HT0_
                go_wp2_with fail
                refine wp_region_noPanic ?_
                refine wp_region_held_drew (S := (fun w' => w'.cell? ⟨w.heap.size, 0, none⟩ = some (.slice A l.length c))) (by kernel_rfl) p0 (fun hHeld => ?_)
                refine wpAnyH_take (i := 0) (v := ?_) rfl (by kernel_rfl) (by kernel_rfl) (by kernel_rfl) (fun _ _ _ h => h) (Or.inl ⟨by rfl, ?_⟩) (by assumption) ?_
                rotate_left 1
                · (intro w' hSw; (try dsimp only at hSw); go_simp <;> with_reducible rfl)
                simp only [Act.put, List.setIfInBounds_toArray, List.set_cons_zero, List.set_cons_succ]
                refine wpAnyH_take (i := 2) (v := ?_) rfl (by kernel_rfl) (by kernel_rfl) (by kernel_rfl) (fun _ _ _ h => h) (Or.inl ⟨by rfl, ?_⟩) (by assumption) ?_
                rotate_left 1
                · (intro w' hSw; (try dsimp only at hSw); go_simp <;> with_reducible rfl)
                simp only [Act.put, List.setIfInBounds_toArray, List.set_cons_zero, List.set_cons_succ]
                refine wpAnyH_take (i := 3) (v := ?_) rfl (by kernel_rfl) (by kernel_rfl) (by kernel_rfl) (fun _ _ _ h => h) (Or.inl ⟨by rfl, ?_⟩) (by assumption) ?_
                rotate_left 1
                · (intro w' hSw; (try dsimp only at hSw); go_simp <;> with_reducible rfl)
                simp only [Act.put, List.setIfInBounds_toArray, List.set_cons_zero, List.set_cons_succ]
                refine wpAnyH_take (i := 4) (v := ?_) rfl (by kernel_rfl) (by kernel_rfl) (by kernel_rfl) (fun _ _ _ h => h) (Or.inl ⟨by rfl, ?_⟩) (by assumption) ?_
                rotate_left 1
                · (intro w' hSw; (try dsimp only at hSw); go_simp <;> with_reducible rfl)
                simp only [Act.put, List.setIfInBounds_toArray, List.set_cons_zero, List.set_cons_succ]
                refine wpAnyH_take (i := 5) (v := ?_) rfl (by kernel_rfl) (by kernel_rfl) (by kernel_rfl) (fun _ _ _ h => h) (Or.inl ⟨by rfl, ?_⟩) (by assumption) ?_
                rotate_left 1
                · (intro w' hSw; (try dsimp only at hSw); go_simp <;> with_reducible rfl)
                simp only [Act.put, List.setIfInBounds_toArray, List.set_cons_zero, List.set_cons_succ]
                refine wpAnyH_take (i := 6) (v := ?_) rfl (by kernel_rfl) (by kernel_rfl) (by kernel_rfl) (fun _ _ _ h => h) (Or.inl ⟨by rfl, ?_⟩) (by assumption) ?_
                rotate_left 1
                · (intro w' hSw; (try dsimp only at hSw); go_simp <;> with_reducible rfl)
                simp only [Act.put, List.setIfInBounds_toArray, List.set_cons_zero, List.set_cons_succ]
                refine wpAnyH_take (i := 7) (v := ?_) rfl (by kernel_rfl) (by kernel_rfl) (by kernel_rfl) (fun _ _ _ h => h) (Or.inl ⟨by rfl, ?_⟩) (by assumption) ?_
                rotate_left 1
                · (intro w' hSw; (try dsimp only at hSw); go_simp <;> with_reducible rfl)
                simp only [Act.put, List.setIfInBounds_toArray, List.set_cons_zero, List.set_cons_succ]
                refine wpAnyH_ready (rs := [1, 8]) (by kernel_rfl) (by simp) ?_
                refine (AllReadyH.cons rfl (fun K hK => ?_) (AllReadyH.cons rfl (fun K hK => ?_) AllReadyH.nil))
                · skip
                  go_simp
                  refine hK.out _ _ ?_ (fun hHeld => ?_)
                  · (first | (with_reducible exact hHeld) | (with_reducible exact hk7) | (with_reducible exact hk6) | exact hk5 | go_keep)
                  clear hK K
                  try simp only [Act.put, List.setIfInBounds_toArray, List.set_cons_zero, List.set_cons_succ]
                  refine wpAnyH_ready (rs := [8]) (by kernel_rfl) (by simp) ?_
                  refine (AllReadyH.cons rfl (fun K hK => ?_) AllReadyH.nil)
                  go_simp
                  (go_at_call 51; refine (hT _ HId.out.pb.rn).mono ?_; rintro e w6 ⟨rfl, hb6⟩; have HI6 := Lib.hid (HId.out.below hb6); clear hb6; have HI6A := Lib.hid (HI6.out.below ((Below.refl _ _).alloc (Nat.le_refl _) (.cells #[.int .i64 t] 2))); have hq6 : q ≤ (w6.alloc (.cells #[.int .i64 t] 2)).heap.size := Nat.le_of_lt HI6A.out.siz.2; have n1 := HI6.out.m.c1; have hqz6 : q < w6.heap.size := HI6.out.siz.2; have hk5 := HI6.out.pb.c0; have hwz6 : w.heap.size < w6.heap.size := HI6.out.pb.siz; have hlow : ∀ b, Value.ownBlock (.slice A2 (getTo l d root kk).length c2) = some b → b ≠ w.heap.size := fun b hb => by (have h1 := (World.ownsRow.lt HI6.out.own b hb).1; have h2 := HI6.out.siz.1; omega))
                  try go_wp2_with fail
                  refine hK.out _ _ ?_ (fun hHeld => ?_)
                  · (first | (with_reducible exact hHeld) | (with_reducible exact hk7) | (with_reducible exact hk6) | exact hk5 | go_keep)
                  clear hK K
                  try simp only [Act.put, List.setIfInBounds_toArray, List.set_cons_zero, List.set_cons_succ]
                  refine wpAnyH_ready (rs := [9]) (by kernel_rfl) (by simp) ?_
                  refine (AllReadyH.cons rfl (fun K hK => ?_) AllReadyH.nil)
                  go_simp
                  refine hK.out _ _ ?_ (fun hHeld => ?_)
                  · (first | (with_reducible exact hHeld) | (with_reducible exact hk7) | (with_reducible exact hk6) | exact hk5 | go_keep)
                  clear hK K
                  try simp only [Act.put, List.setIfInBounds_toArray, List.set_cons_zero, List.set_cons_succ]
                  refine wpAnyH_ready (rs := [10]) (by kernel_rfl) (by simp) ?_
                  refine (AllReadyH.cons rfl (fun K hK => ?_) AllReadyH.nil)
                  refine step_append_ints_l Tryd.underlying26 hi hz0 hz1 hz2 (by decide) (by rfl) _ _ (by rfl) q _ (getTo l d root kk) t _ w6.heap.size HI6A.out.own (by simp [Act.eval]) (by simp [Act.eval]) (by simp [go_sem]) hle hq6 ?_; intro gN cap w7 hown7 hg7 hlies; have HI7 := Lib.hid (HI6A.out.push hown7 hg7 hlies); have cq := hg7.cell HI6A.out.m.c1 (fun e => HI6A.out.ap e.symm); have fq := (World.frozen?_of_block (a := ⟨q, 1, none⟩) (hg7.block q HI6A.out.siz.2 (fun e => HI6A.out.ap e.symm))).trans HI6A.out.m.f1; have hk7 := hg7.cell HI6A.out.pb.c0 (fun e => hlow _ e.symm rfl); have hk6 := HI7.out.pb.c0
                  refine hK.out _ _ ?_ (fun hHeld => ?_)
                  · (first | (with_reducible exact hHeld) | (with_reducible exact hk7) | (with_reducible exact hk6) | exact hk5 | go_keep)
                  clear hK K
                  try simp only [Act.put, List.setIfInBounds_toArray, List.set_cons_zero, List.set_cons_succ]
                  refine wpAnyH_take (i := 11) (v := ?_) rfl (by kernel_rfl) (by kernel_rfl) (by kernel_rfl) (fun _ _ _ h => h) (Or.inl ⟨by rfl, ?_⟩) (by assumption) ?_
                  rotate_left 1
                  · (intro w' hSw; (try dsimp only at hSw); go_simp <;> with_reducible rfl)
                  simp only [Act.put, List.setIfInBounds_toArray, List.set_cons_zero, List.set_cons_succ]
                  refine wpAnyH_ready (rs := [12]) (by kernel_rfl) (by simp) ?_
                  refine (AllReadyH.cons rfl (fun K hK => ?_) AllReadyH.nil)
                  go_simp
                  refine hK.out _ _ ?_ (fun hHeld => ?_)
                  · (first | (with_reducible exact hHeld) | (with_reducible exact hk7) | (with_reducible exact hk6) | exact hk5 | go_keep)
                  clear hK K
                  try simp only [Act.put, List.setIfInBounds_toArray, List.set_cons_zero, List.set_cons_succ]
                  refine wpAnyH_done (by kernel_rfl) ?_ _
                  refine NoPanic.normal ?_
                  clear hown7 hg7 hlies hk7 hk6 hk5 p0 m0 m1 mf1 n1 cq fq HI6A HI6 HId
                  go_wp2
                  go_roundw
                  case rel => exact ⟨x + 1, some ⟨gN, 0, none⟩, cap, by go_num, by omega, by rw [← Nat.add_assoc, HKK.out, HST.out, List.length_append]; exact HI7.out⟩
                  case measure => simp [intOf] <;> omega
                · skip
                  go_simp
                  (go_at_call 51; refine (hT _ HId.out.pb.rn).mono ?_; rintro e w6 ⟨rfl, hb6⟩; have HI6 := Lib.hid (HId.out.below hb6); clear hb6; have HI6A := Lib.hid (HI6.out.below ((Below.refl _ _).alloc (Nat.le_refl _) (.cells #[.int .i64 t] 2))); have hq6 : q ≤ (w6.alloc (.cells #[.int .i64 t] 2)).heap.size := Nat.le_of_lt HI6A.out.siz.2; have n1 := HI6.out.m.c1; have hqz6 : q < w6.heap.size := HI6.out.siz.2; have hk5 := HI6.out.pb.c0; have hwz6 : w.heap.size < w6.heap.size := HI6.out.pb.siz; have hlow : ∀ b, Value.ownBlock (.slice A2 (getTo l d root kk).length c2) = some b → b ≠ w.heap.size := fun b hb => by (have h1 := (World.ownsRow.lt HI6.out.own b hb).1; have h2 := HI6.out.siz.1; omega))
                  try go_wp2_with fail
                  refine hK.out _ _ ?_ (fun hHeld => ?_)
                  · (first | (with_reducible exact hHeld) | (with_reducible exact hk7) | (with_reducible exact hk6) | exact hk5 | go_keep)
                  clear hK K
                  try simp only [Act.put, List.setIfInBounds_toArray, List.set_cons_zero, List.set_cons_succ]
                  refine wpAnyH_ready (rs := [1, 9]) (by kernel_rfl) (by simp) ?_
                  refine (AllReadyH.cons rfl (fun K hK => ?_) (AllReadyH.cons rfl (fun K hK => ?_) AllReadyH.nil))
                  · skip
                    go_simp
                    refine hK.out _ _ ?_ (fun hHeld => ?_)
                    · (first | (with_reducible exact hHeld) | (with_reducible exact hk7) | (with_reducible exact hk6) | exact hk5 | go_keep)
                    clear hK K
                    try simp only [Act.put, List.setIfInBounds_toArray, List.set_cons_zero, List.set_cons_succ]
                    refine wpAnyH_ready (rs := [9]) (by kernel_rfl) (by simp) ?_
                    refine (AllReadyH.cons rfl (fun K hK => ?_) AllReadyH.nil)
                    go_simp
                    refine hK.out _ _ ?_ (fun hHeld => ?_)
                    · (first | (with_reducible exact hHeld) | (with_reducible exact hk7) | (with_reducible exact hk6) | exact hk5 | go_keep)
                    clear hK K
                    try simp only [Act.put, List.setIfInBounds_toArray, List.set_cons_zero, List.set_cons_succ]
                    refine wpAnyH_ready (rs := [10]) (by kernel_rfl) (by simp) ?_
                    refine (AllReadyH.cons rfl (fun K hK => ?_) AllReadyH.nil)
                    refine step_append_ints_l Tryd.underlying26 hi hz0 hz1 hz2 (by decide) (by rfl) _ _ (by rfl) q _ (getTo l d root kk) t _ w6.heap.size HI6A.out.own (by simp [Act.eval]) (by simp [Act.eval]) (by simp [go_sem]) hle hq6 ?_; intro gN cap w7 hown7 hg7 hlies; have HI7 := Lib.hid (HI6A.out.push hown7 hg7 hlies); have cq := hg7.cell HI6A.out.m.c1 (fun e => HI6A.out.ap e.symm); have fq := (World.frozen?_of_block (a := ⟨q, 1, none⟩) (hg7.block q HI6A.out.siz.2 (fun e => HI6A.out.ap e.symm))).trans HI6A.out.m.f1; have hk7 := hg7.cell HI6A.out.pb.c0 (fun e => hlow _ e.symm rfl); have hk6 := HI7.out.pb.c0
                    refine hK.out _ _ ?_ (fun hHeld => ?_)
                    · (first | (with_reducible exact hHeld) | (with_reducible exact hk7) | (with_reducible exact hk6) | exact hk5 | go_keep)
                    clear hK K
                    try simp only [Act.put, List.setIfInBounds_toArray, List.set_cons_zero, List.set_cons_succ]
                    refine wpAnyH_take (i := 11) (v := ?_) rfl (by kernel_rfl) (by kernel_rfl) (by kernel_rfl) (fun _ _ _ h => h) (Or.inl ⟨by rfl, ?_⟩) (by assumption) ?_
                    rotate_left 1
                    · (intro w' hSw; (try dsimp only at hSw); go_simp <;> with_reducible rfl)
                    simp only [Act.put, List.setIfInBounds_toArray, List.set_cons_zero, List.set_cons_succ]
                    refine wpAnyH_ready (rs := [12]) (by kernel_rfl) (by simp) ?_
                    refine (AllReadyH.cons rfl (fun K hK => ?_) AllReadyH.nil)
                    go_simp
                    refine hK.out _ _ ?_ (fun hHeld => ?_)
                    · (first | (with_reducible exact hHeld) | (with_reducible exact hk7) | (with_reducible exact hk6) | exact hk5 | go_keep)
                    clear hK K
                    try simp only [Act.put, List.setIfInBounds_toArray, List.set_cons_zero, List.set_cons_succ]
                    refine wpAnyH_done (by kernel_rfl) ?_ _
                    refine NoPanic.normal ?_
                    clear hown7 hg7 hlies hk7 hk6 hk5 p0 m0 m1 mf1 n1 cq fq HI6A HI6 HId
                    go_wp2
                    go_roundw
                    case rel => exact ⟨x + 1, some ⟨gN, 0, none⟩, cap, by go_num, by omega, by rw [← Nat.add_assoc, HKK.out, HST.out, List.length_append]; exact HI7.out⟩
                    case measure => simp [intOf] <;> omega
                  · skip
                    go_simp
                    refine hK.out _ _ ?_ (fun hHeld => ?_)
                    · (first | (with_reducible exact hHeld) | (with_reducible exact hk7) | (with_reducible exact hk6) | exact hk5 | go_keep)
                    clear hK K
                    try simp only [Act.put, List.setIfInBounds_toArray, List.set_cons_zero, List.set_cons_succ]
                    refine wpAnyH_ready (rs := [1]) (by kernel_rfl) (by simp) ?_
                    refine (AllReadyH.cons rfl (fun K hK => ?_) AllReadyH.nil)
                    go_simp
                    refine hK.out _ _ ?_ (fun hHeld => ?_)
                    · (first | (with_reducible exact hHeld) | (with_reducible exact hk7) | (with_reducible exact hk6) | exact hk5 | go_keep)
                    clear hK K
                    try simp only [Act.put, List.setIfInBounds_toArray, List.set_cons_zero, List.set_cons_succ]
                    refine wpAnyH_ready (rs := [10]) (by kernel_rfl) (by simp) ?_
                    refine (AllReadyH.cons rfl (fun K hK => ?_) AllReadyH.nil)
                    refine step_append_ints_l Tryd.underlying26 hi hz0 hz1 hz2 (by decide) (by rfl) _ _ (by rfl) q _ (getTo l d root kk) t _ w6.heap.size HI6A.out.own (by simp [Act.eval]) (by simp [Act.eval]) (by simp [go_sem]) hle hq6 ?_; intro gN cap w7 hown7 hg7 hlies; have HI7 := Lib.hid (HI6A.out.push hown7 hg7 hlies); have cq := hg7.cell HI6A.out.m.c1 (fun e => HI6A.out.ap e.symm); have fq := (World.frozen?_of_block (a := ⟨q, 1, none⟩) (hg7.block q HI6A.out.siz.2 (fun e => HI6A.out.ap e.symm))).trans HI6A.out.m.f1; have hk7 := hg7.cell HI6A.out.pb.c0 (fun e => hlow _ e.symm rfl); have hk6 := HI7.out.pb.c0
                    refine hK.out _ _ ?_ (fun hHeld => ?_)
                    · (first | (with_reducible exact hHeld) | (with_reducible exact hk7) | (with_reducible exact hk6) | exact hk5 | go_keep)
                    clear hK K
                    try simp only [Act.put, List.setIfInBounds_toArray, List.set_cons_zero, List.set_cons_succ]
                    refine wpAnyH_take (i := 11) (v := ?_) rfl (by kernel_rfl) (by kernel_rfl) (by kernel_rfl) (fun _ _ _ h => h) (Or.inl ⟨by rfl, ?_⟩) (by assumption) ?_
                    rotate_left 1
                    · (intro w' hSw; (try dsimp only at hSw); go_simp <;> with_reducible rfl)
                    simp only [Act.put, List.setIfInBounds_toArray, List.set_cons_zero, List.set_cons_succ]
                    refine wpAnyH_ready (rs := [12]) (by kernel_rfl) (by simp) ?_
                    refine (AllReadyH.cons rfl (fun K hK => ?_) AllReadyH.nil)
                    go_simp
                    refine hK.out _ _ ?_ (fun hHeld => ?_)
                    · (first | (with_reducible exact hHeld) | (with_reducible exact hk7) | (with_reducible exact hk6) | exact hk5 | go_keep)
                    clear hK K
                    try simp only [Act.put, List.setIfInBounds_toArray, List.set_cons_zero, List.set_cons_succ]
                    refine wpAnyH_done (by kernel_rfl) ?_ _
                    refine NoPanic.normal ?_
                    clear hown7 hg7 hlies hk7 hk6 hk5 p0 m0 m1 mf1 n1 cq fq HI6A HI6 HId
                    go_wp2
                    go_roundw
                    case rel => exact ⟨x + 1, some ⟨gN, 0, none⟩, cap, by go_num, by omega, by rw [← Nat.add_assoc, HKK.out, HST.out, List.length_append]; exact HI7.out⟩
                    case measure => simp [intOf] <;> omega
              · obtain rfl : x = z := by omega
                have HI3 : Hid (∃ (A2 : Option Addr) (c2 : Nat), GI w A c l q x (.slice A2 (getTo l d root ((y + 1) * x)).length c2) (getTo l d root ((y + 1) * x)) wr) := ⟨A2, c2, by rw [Nat.add_mul, Nat.one_mul]; exact HI2.out⟩
                clear HI2
                go_wp2
                go_roundw
                case rel =>
                  obtain ⟨A3, c3, h3⟩ := HI3.out
                  exact ⟨y + 1, A3, c3, by go_num, by omega, h3⟩
                case measure => simp [intOf] <;> omega
          · obtain rfl : y = z := by omega
            obtain ⟨m0, m1, _, mf1⟩ := HI.out.m
            obtain ⟨c0, c1, c2', f0, f1, f2⟩ := HI.out.res
            obtain ⟨z1, z2⟩ := HI.out.siz
            go_wp2
            refine bodyPost_ret (v := .agg #[.int .i64 y, .slice A1 (getTo l d root (y * y)).length c1_, .int .i64 0]) (by simp [results, Tryd.results10, go_sem, c0, c1, c2']) rfl ?_
            rw [HE2.out]
            refine ⟨A1, c1_, rfl, ?_, ((HI.out.pb.bel.setCell (by simp) _).setCell (by simp) _).setCell (by simp) _⟩
            exact OwnI.lower (base := q) (by omega) (OwnI.set_below (by show w.heap.size + 1 < _; omega) _ (OwnI.set_below (by show w.heap.size + 1 < _; omega) _ (OwnI.set_below (by show w.heap.size + 1 < _; omega) _ HI.out.own)))
end Go.Proofs.YthhadbojepcdjaaDoor
