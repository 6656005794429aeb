/- The program's pools: rootCode, gridBelow. -/
import Derived.Test.YtoobkajilbmdhaaDoorTlP
import Derived.Test.YtoobkajilbmdhaaDoorTlH
import Derived.Test.YtoobkajilbmdhaaDoorTbP
import Derived.Test.YtoobkajilbmdhaaDoorPgQ
namespace Go.Proofs.YtoobkajilbmdhaaDoor
open Go.RowKit
set_option linter.unusedVariables false
set_option linter.unusedSimpArgs false

theorem side_pow {side : Int} (h : sideOk side = true) : ∃ d : Nat, d ≤ 3 ∧ side = ((2 ^ d : Nat) : Int) ∧ dbl side.toNat = d := by
  rcases (sideOk_iff side).1 h with rfl | rfl | rfl | rfl
  · exact ⟨0, by decide, rfl, rfl⟩
  · exact ⟨1, by decide, rfl, rfl⟩
  · exact ⟨2, by decide, rfl, rfl⟩
  · exact ⟨3, by decide, rfl, rfl⟩
theorem getTo_step (l : List Nd) (d root x y z : Nat) (hz : 2 ^ d = z) (hx : x < z) : getTo l d root (y * z + x + 1) = getTo l d root (y * z + x) ++ [tileN l d root x y] := by
  rw [getTo, hz, Nat.mul_comm y z, Nat.mul_add_mod, Nat.mod_eq_of_lt hx, Nat.mul_add_div (by omega), Nat.div_eq_of_lt hx, Nat.add_zero]

/-- While the map grows in its box q: the nodes, the box to hand back, the row. -/
structure GJ (w : World) (A : Option Addr) (l : List Nd) (q : Nat) (side : Int) (v : Value) (T : List Int) (wr : World) : Prop where
  rn : RN wr w.heap.size A l
  bel : Below w.heap.size w wr
  res : GB wr w.heap.size 0 (.slice none 0 0)
  m : GB wr q side v
  own : OwnI 2 .i64 wr q v T
  siz : w.heap.size < q ∧ q < wr.heap.size
  ap : v.ownBlock ≠ some q
section
variable {w : World} {A : Option Addr} {l : List Nd} {q : Nat} {side : Int} {v : Value} {T : List Int} {wr wr' : World}
theorem GJ.below (h : GJ w A l q side v T wr) (hb : Below wr.heap.size wr wr') : GJ w A l q side v T wr' := by
  obtain ⟨z1, z2⟩ := h.siz
  exact ⟨h.rn.below (hb.mono (by omega)), h.bel.trans (hb.mono (by omega)), h.res.below hb (by omega), h.m.below hb z2, h.own.keep hb, ⟨z1, Nat.lt_of_lt_of_le z2 hb.size⟩, h.ap⟩
theorem GJ.drew (h : GJ w A l q side v T wr) : GJ w A l q side v T wr.drew := h.below (Below.refl _ _).drew
theorem GJ.rnn (h : GJ w A l q side v T wr) : RN wr wr.heap.size A l := h.rn.mono (by have := h.siz; omega)
theorem GJ.push {g n cc : Nat} {T' : List Int} (h : GJ w A l q side v T wr) (ho : OwnI 2 .i64 wr' q (.slice (some ⟨g, 0, none⟩) n cc) T') (hg : wr.grownBy wr' v.ownBlock) (hl : v.ownBlock = some g ∨ g = wr.heap.size) :
    GJ w A l q side (.slice (some ⟨g, 0, none⟩) n cc) T' (wr'.setCell ⟨q, 1, none⟩ (.slice (some ⟨g, 0, none⟩) n cc)) := by
  obtain ⟨z1, z2⟩ := h.siz
  have hgq : g ≠ q := by
    rcases hl with hl | hl
    · intro e; exact h.ap (by rw [hl, e])
    · omega
  have hlo := fun k hk => (World.ownsRow.lt h.own k hk).1
  have hb : Below (w.heap.size + 1) wr (wr'.setCell ⟨q, 1, none⟩ (.slice (some ⟨g, 0, none⟩) n cc)) :=
    ((Below.refl (w.heap.size + 1) wr).grown hg (by omega) (fun k hk => by have := hlo k hk; omega)).setCell (by show w.heap.size + 1 ≤ q; omega) _
  have hm : GB wr' q side v := ⟨(World.cell?_of_block (a := ⟨q, 0, none⟩) (hg.block q z2 (fun e => h.ap e.symm))).trans h.m.c0, (World.cell?_of_block (a := ⟨q, 1, none⟩) (hg.block q z2 (fun e => h.ap e.symm))).trans h.m.c1, (World.frozen?_of_block (a := ⟨q, 0, none⟩) (hg.block q z2 (fun e => h.ap e.symm))).trans h.m.f0, (World.frozen?_of_block (a := ⟨q, 1, none⟩) (hg.block q z2 (fun e => h.ap e.symm))).trans h.m.f1⟩
  exact ⟨h.rn.below (hb.mono (by omega)), h.bel.trans (hb.mono (by omega)), h.res.below hb (by omega), hm.set1 _, World.ownsRow.kept ho ⟨rfl, rfl, rfl, by simp, fun k _ hk => heap_setCell_other wr' ⟨q, 1, none⟩ k _ (fun e => hk (by rw [e]))⟩ (.inr (by simpa [Value.ownBlock] using hgq)), ⟨z1, by have := hg.size; simp; omega⟩, by simpa [Value.ownBlock] using hgq⟩
end

set_option maxRecDepth 100000 in
set_option maxHeartbeats 1000000 in
theorem pRootCode_any (A : Option Addr) (c : Nat) (l : List Nd) (rt side : Int) (w : World) (h : RN w w.heap.size A l) (hr : poolRight l = true) (hs : sideOk side = true) (htab : HasTab w) :
    Calls Tryd.prog 49 #[.slice A l.length c, .int .i64 rt, .int .i64 side] w fun e w' => e = .returned (.int .i64 (getG l rt side).1) ∧ Below w.heap.size w w' := by
  have hTh := fun w => pThere_any A l.length c rt w
  cases ht : thereN l.length rt
  · have HE2 : Hid ((getG l rt side).1 = 6) := by show _ = _; simp [getG, ht]
    rw [HE2.out]
    rw [ht] at hTh
    clear hr hs ht h htab
    go_enter Tryd.func49, Tryd.ntmps49
    go_wp2_with fail
    refine (hTh _).mono ?_
    rintro e w2 ⟨rfl, rfl⟩
    go_wp2
    go_ret
    exact ⟨rfl, Below.refl _ _⟩
  · rw [ht] at hTh
    have h2 : 0 ≤ rt ∧ rt < l.length := by simp [thereN, inIs] at ht; omega
    obtain ⟨root, rfl⟩ := Int.eq_ofNat_of_zero_le h2.1
    have hk : root < l.length := by omega
    obtain ⟨d, hd, rfl, hdb⟩ := side_pow hs
    have hHo := pHeightOf_any A c l root w h hr hk
    have hDb := fun w h => pDoublings_any d hd w h
    have HT := Lib.hid htab
    have HG : Hid ((getG l (root : Int) ((2 ^ d : Nat) : Int)).1 = if (hts l).getD root 0 ≤ (d : Int) then 0 else 8) := by
      show _ = _
      rw [getG, ht, if_pos rfl, hdb]
      simp only [Int.toNat_natCast]
      split <;> rfl
    rw [HG.out]
    have hd3 : (d : Int) ≤ 3 := by omega
    clear ht h2 hdb hr hs hd h htab HG
    by_cases hh : (hts l).getD root 0 ≤ (d : Int)
    · rw [if_pos hh]
      have hhb : decide ((d : Int) < (hts l).getD root 0) = false := decide_eq_false (by omega)
      generalize (hts l).getD root 0 = hv at *
      go_enter Tryd.func49, Tryd.ntmps49
      go_wp2_with fail
      refine (hTh _).mono ?_
      rintro e w2 ⟨rfl, rfl⟩
      go_wp2_with fail
      refine hHo.mono ?_
      rintro e w3 ⟨rfl, hb3⟩
      have HT3 := Lib.hid (HT.out.below hb3)
      go_wp2_with fail
      refine (hDb _ HT3.out).mono ?_
      rintro e w4 ⟨rfl, rfl⟩
      go_wp2
      go_ret
      exact ⟨rfl, hb3⟩
    · rw [if_neg hh]
      have hhb : decide ((d : Int) < (hts l).getD root 0) = true := decide_eq_true (by omega)
      generalize (hts l).getD root 0 = hv at *
      go_enter Tryd.func49, Tryd.ntmps49
      go_wp2_with fail
      refine (hTh _).mono ?_
      rintro e w2 ⟨rfl, rfl⟩
      go_wp2_with fail
      refine hHo.mono ?_
      rintro e w3 ⟨rfl, hb3⟩
      have HT3 := Lib.hid (HT.out.below hb3)
      go_wp2_with fail
      refine (hDb _ HT3.out).mono ?_
      rintro e w4 ⟨rfl, rfl⟩
      go_wp2
      go_ret
      exact ⟨rfl, hb3⟩

set_option maxRecDepth 100000 in
set_option maxHeartbeats 4000000 in
theorem pGridBelow_any (A : Option Addr) (c : Nat) (l : List Nd) (root d : Nat) (w : World) (h : RN w w.heap.size A l) (hr : poolRight l = true) (hd : d ≤ 3) (hk : root < l.length) (hh : (hts l).getD root 0 ≤ (d : Int)) :
    Calls Tryd.prog 50 #[.slice A l.length c, .int .i64 root, .int .i64 ((2 ^ d : Nat) : Int)] w fun e w' => ∃ A2 c2, e = .returned (.agg #[.int .i64 ((2 ^ d : Nat) : Int), .slice A2 (getTo l d root (2 ^ d * 2 ^ d)).length c2]) ∧ OwnI 2 .i64 w' w.heap.size (.slice A2 (getTo l d root (2 ^ d * 2 ^ d)).length c2) (getTo l d root (2 ^ d * 2 ^ d)) ∧ Below w.heap.size w w' := by
  obtain ⟨i0, hi, hz0, hz1, hz2⟩ := info_parts Tryd.infoInt
  have HT0_ := Lib.hid (fun x y (hx : x < 2 ^ d) (hy : y < 2 ^ d) w h => pTileBelow_any A c l w h hr d root x y hd hk hh hx hy)
  have H := Lib.hid h
  have hzp : 1 ≤ 2 ^ d := Nat.one_le_two_pow
  have hz8 : 2 ^ d ≤ 2 ^ 3 := Nat.pow_le_pow_right (by omega) hd
  clear hr hh hd h
  generalize hzz : 2 ^ d = z at *
  have HZ := Lib.hid hzz
  have hz9 : (z : Int) ≤ 8 := by omega
  clear hzz hz8
  have HI0 : Hid (GJ w A l (w.heap.size + 1) z (.slice none 0 0) [] ((w.alloc (.cells #[.int .i64 0, .slice none 0 0] 28)).alloc (.cells #[.int .i64 z, .slice none 0 0] 28))) := by
    have hb : Below w.heap.size w ((w.alloc (.cells #[.int .i64 0, .slice none 0 0] 28)).alloc (.cells #[.int .i64 z, .slice none 0 0] 28)) := ((Below.refl _ _).alloc (Nat.le_refl _) _).alloc (by simp) _
    exact ⟨H.out.below hb, hb, ⟨by simp [go_sem], by simp [go_sem], by simp [go_sem], by simp [go_sem]⟩, ⟨by simp [go_sem], by simp [go_sem], by simp [go_sem], by simp [go_sem]⟩, OwnI.nil _ _ _ _, ⟨by omega, by simp⟩, by simp [Value.ownBlock]⟩
  go_enter Tryd.func50, Tryd.ntmps50
  go_wp2
  generalize (w.alloc (.cells #[.int .i64 0, .slice none 0 0] 28)).alloc (.cells #[.int .i64 z, .slice none 0 0] 28) = w5 at *
  obtain ⟨q, hqq⟩ : ∃ q, q = w.heap.size + 1 := ⟨_, rfl⟩
  rw [← hqq] at HI0 ⊢
  clear hqq
  go_loopw [13] (fun i wr => ∃ (y : Nat) (A2 : Option Addr) (c2 : Nat), i = .int .i64 y ∧ y ≤ z ∧ GJ w A l q z (.slice A2 (getTo l d root (y * z)).length c2) (getTo l d root (y * z)) wr) (fun i _ => z - (intOf i).toNat)
  case atStart => exact ⟨0, none, 0, rfl, Nat.zero_le _, by rw [Nat.zero_mul]; exact HI0.out⟩
  case round =>
    obtain ⟨y, A1, c1_, rfl, hy, hgi⟩ := hrel
    have HI := Lib.hid hgi
    clear HI0 hgi
    by_cases hyl : y < z
    · have hyz : (y : Int) < z := by omega
      go_wp2
      go_loopw [17] (fun i wr => ∃ (x : Nat) (A2 : Option Addr) (c2 : Nat), i = .int .i64 x ∧ x ≤ z ∧ GJ w A l q z (.slice A2 (getTo l d root (y * z + x)).length c2) (getTo l d root (y * z + x)) wr) (fun i _ => z - (intOf i).toNat)
      case atStart => exact ⟨0, A1, c1_, rfl, Nat.zero_le _, HI.out⟩
      case round =>
        obtain ⟨x, A2, c2, rfl, hx, hgi⟩ := hrel
        have HI2 := Lib.hid hgi
        clear HI hgi
        by_cases hxl : x < z
        · have hxz : (x : Int) < z := by omega
          have hT := HT0_.out x y hxl hyl
          have HST := Lib.hid (getTo_step l d root x y z HZ.out hxl)
          have hle : (getTo l d root (y * z + x)).length ≤ 1000000 := by
            rw [getTo_len]
            have : y * z ≤ 8 * 8 := Nat.mul_le_mul (by omega) (by omega)
            omega
          generalize hKK : y * z + x = kk at *
          have HKK := Lib.hid hKK
          generalize tileN l d root x y = t at *
          have HId := Lib.hid HI2.out.drew
          obtain ⟨m0, m1, _, mf1⟩ := HI2.out.m
          clear hKK HT0_
          go_wp2_with fail
          refine wp_region_noPanic ?_
          refine wp_region_held_drew (S := (fun _ => True)) (by kernel_rfl) True.intro (fun hHeld => ?_)
          refine wpAnyH_take (i := 0) (v := ?_) rfl (by kernel_rfl) (by kernel_rfl) (by kernel_rfl) (fun _ _ _ h => h) (Or.inl ⟨by rfl, ?_⟩) (by assumption) ?_
          rotate_left 1
          · (intro w' hSw; (try dsimp only at hSw); go_simp <;> with_reducible rfl)
          simp only [Act.put, List.setIfInBounds_toArray, List.set_cons_zero, List.set_cons_succ]
          refine wpAnyH_take (i := 2) (v := ?_) rfl (by kernel_rfl) (by kernel_rfl) (by kernel_rfl) (fun _ _ _ h => h) (Or.inl ⟨by rfl, ?_⟩) (by assumption) ?_
          rotate_left 1
          · (intro w' hSw; (try dsimp only at hSw); go_simp <;> with_reducible rfl)
          simp only [Act.put, List.setIfInBounds_toArray, List.set_cons_zero, List.set_cons_succ]
          refine wpAnyH_take (i := 3) (v := ?_) rfl (by kernel_rfl) (by kernel_rfl) (by kernel_rfl) (fun _ _ _ h => h) (Or.inl ⟨by rfl, ?_⟩) (by assumption) ?_
          rotate_left 1
          · (intro w' hSw; (try dsimp only at hSw); go_simp <;> with_reducible rfl)
          simp only [Act.put, List.setIfInBounds_toArray, List.set_cons_zero, List.set_cons_succ]
          refine wpAnyH_take (i := 4) (v := ?_) rfl (by kernel_rfl) (by kernel_rfl) (by kernel_rfl) (fun _ _ _ h => h) (Or.inl ⟨by rfl, ?_⟩) (by assumption) ?_
          rotate_left 1
          · (intro w' hSw; (try dsimp only at hSw); go_simp <;> with_reducible rfl)
          simp only [Act.put, List.setIfInBounds_toArray, List.set_cons_zero, List.set_cons_succ]
          refine wpAnyH_take (i := 5) (v := ?_) rfl (by kernel_rfl) (by kernel_rfl) (by kernel_rfl) (fun _ _ _ h => h) (Or.inl ⟨by rfl, ?_⟩) (by assumption) ?_
          rotate_left 1
          · (intro w' hSw; (try dsimp only at hSw); go_simp <;> with_reducible rfl)
          simp only [Act.put, List.setIfInBounds_toArray, List.set_cons_zero, List.set_cons_succ]
          refine wpAnyH_take (i := 6) (v := ?_) rfl (by kernel_rfl) (by kernel_rfl) (by kernel_rfl) (fun _ _ _ h => h) (Or.inl ⟨by rfl, ?_⟩) (by assumption) ?_
          rotate_left 1
          · (intro w' hSw; (try dsimp only at hSw); go_simp <;> with_reducible rfl)
          simp only [Act.put, List.setIfInBounds_toArray, List.set_cons_zero, List.set_cons_succ]
          refine wpAnyH_ready (rs := [1, 7]) (by kernel_rfl) (by simp) ?_
          refine (AllReadyH.cons rfl (fun K hK => ?_) (AllReadyH.cons rfl (fun K hK => ?_) AllReadyH.nil))
          · skip
            go_simp
            refine hK.out _ _ ?_ (fun hHeld => ?_)
            · exact True.intro
            clear hK K
            try simp only [Act.put, List.setIfInBounds_toArray, List.set_cons_zero, List.set_cons_succ]
            refine wpAnyH_ready (rs := [7]) (by kernel_rfl) (by simp) ?_
            refine (AllReadyH.cons rfl (fun K hK => ?_) AllReadyH.nil)
            go_simp
            (go_at_call 94; refine (hT _ HId.out.rnn).mono ?_; rintro e w6 ⟨rfl, hb6⟩; have HI6 := Lib.hid (HId.out.below hb6); clear hb6; have HI6A := Lib.hid (HI6.out.below ((Below.refl _ _).alloc (Nat.le_refl _) (.cells #[.int .i64 t] 2))); have hq6 : q ≤ (w6.alloc (.cells #[.int .i64 t] 2)).heap.size := Nat.le_of_lt HI6A.out.siz.2; have n1 := HI6.out.m.c1; have hqz6 : q < w6.heap.size := HI6.out.siz.2)
            try go_wp2_with fail
            refine hK.out _ _ ?_ (fun hHeld => ?_)
            · exact True.intro
            clear hK K
            try simp only [Act.put, List.setIfInBounds_toArray, List.set_cons_zero, List.set_cons_succ]
            refine wpAnyH_ready (rs := [8]) (by kernel_rfl) (by simp) ?_
            refine (AllReadyH.cons rfl (fun K hK => ?_) AllReadyH.nil)
            go_simp
            refine hK.out _ _ ?_ (fun hHeld => ?_)
            · exact True.intro
            clear hK K
            try simp only [Act.put, List.setIfInBounds_toArray, List.set_cons_zero, List.set_cons_succ]
            refine wpAnyH_ready (rs := [9]) (by kernel_rfl) (by simp) ?_
            refine (AllReadyH.cons rfl (fun K hK => ?_) AllReadyH.nil)
            refine step_append_ints_l Tryd.underlying26 hi hz0 hz1 hz2 (by decide) (by rfl) _ _ (by rfl) q _ (getTo l d root kk) t _ w6.heap.size HI6A.out.own (by simp [Act.eval]) (by simp [Act.eval]) (by simp [go_sem]) hle hq6 ?_; intro gN cap w7 hown7 hg7 hlies; have HI7 := Lib.hid (HI6A.out.push hown7 hg7 hlies); have cq := hg7.cell HI6A.out.m.c1 (fun e => HI6A.out.ap e.symm); have fq := (World.frozen?_of_block (a := ⟨q, 1, none⟩) (hg7.block q HI6A.out.siz.2 (fun e => HI6A.out.ap e.symm))).trans HI6A.out.m.f1
            refine hK.out _ _ ?_ (fun hHeld => ?_)
            · exact True.intro
            clear hK K
            try simp only [Act.put, List.setIfInBounds_toArray, List.set_cons_zero, List.set_cons_succ]
            refine wpAnyH_take (i := 10) (v := ?_) rfl (by kernel_rfl) (by kernel_rfl) (by kernel_rfl) (fun _ _ _ h => h) (Or.inl ⟨by rfl, ?_⟩) (by assumption) ?_
            rotate_left 1
            · (intro w' hSw; (try dsimp only at hSw); go_simp <;> with_reducible rfl)
            simp only [Act.put, List.setIfInBounds_toArray, List.set_cons_zero, List.set_cons_succ]
            refine wpAnyH_ready (rs := [11]) (by kernel_rfl) (by simp) ?_
            refine (AllReadyH.cons rfl (fun K hK => ?_) AllReadyH.nil)
            go_simp
            refine hK.out _ _ ?_ (fun hHeld => ?_)
            · exact True.intro
            clear hK K
            try simp only [Act.put, List.setIfInBounds_toArray, List.set_cons_zero, List.set_cons_succ]
            refine wpAnyH_done (by kernel_rfl) ?_ _
            refine NoPanic.normal ?_
            clear hown7 hg7 hlies m0 m1 mf1 n1 cq fq HI6A HI6 HId
            go_wp2
            go_roundw
            case rel => exact ⟨x + 1, some ⟨gN, 0, none⟩, cap, by go_num, by omega, by rw [← Nat.add_assoc, HKK.out, HST.out, List.length_append]; exact HI7.out⟩
            case measure => simp [intOf] <;> omega
          · skip
            go_simp
            (go_at_call 94; refine (hT _ HId.out.rnn).mono ?_; rintro e w6 ⟨rfl, hb6⟩; have HI6 := Lib.hid (HId.out.below hb6); clear hb6; have HI6A := Lib.hid (HI6.out.below ((Below.refl _ _).alloc (Nat.le_refl _) (.cells #[.int .i64 t] 2))); have hq6 : q ≤ (w6.alloc (.cells #[.int .i64 t] 2)).heap.size := Nat.le_of_lt HI6A.out.siz.2; have n1 := HI6.out.m.c1; have hqz6 : q < w6.heap.size := HI6.out.siz.2)
            try go_wp2_with fail
            refine hK.out _ _ ?_ (fun hHeld => ?_)
            · exact True.intro
            clear hK K
            try simp only [Act.put, List.setIfInBounds_toArray, List.set_cons_zero, List.set_cons_succ]
            refine wpAnyH_ready (rs := [1, 8]) (by kernel_rfl) (by simp) ?_
            refine (AllReadyH.cons rfl (fun K hK => ?_) (AllReadyH.cons rfl (fun K hK => ?_) AllReadyH.nil))
            · skip
              go_simp
              refine hK.out _ _ ?_ (fun hHeld => ?_)
              · exact True.intro
              clear hK K
              try simp only [Act.put, List.setIfInBounds_toArray, List.set_cons_zero, List.set_cons_succ]
              refine wpAnyH_ready (rs := [8]) (by kernel_rfl) (by simp) ?_
              refine (AllReadyH.cons rfl (fun K hK => ?_) AllReadyH.nil)
              go_simp
              refine hK.out _ _ ?_ (fun hHeld => ?_)
              · exact True.intro
              clear hK K
              try simp only [Act.put, List.setIfInBounds_toArray, List.set_cons_zero, List.set_cons_succ]
              refine wpAnyH_ready (rs := [9]) (by kernel_rfl) (by simp) ?_
              refine (AllReadyH.cons rfl (fun K hK => ?_) AllReadyH.nil)
              refine step_append_ints_l Tryd.underlying26 hi hz0 hz1 hz2 (by decide) (by rfl) _ _ (by rfl) q _ (getTo l d root kk) t _ w6.heap.size HI6A.out.own (by simp [Act.eval]) (by simp [Act.eval]) (by simp [go_sem]) hle hq6 ?_; intro gN cap w7 hown7 hg7 hlies; have HI7 := Lib.hid (HI6A.out.push hown7 hg7 hlies); have cq := hg7.cell HI6A.out.m.c1 (fun e => HI6A.out.ap e.symm); have fq := (World.frozen?_of_block (a := ⟨q, 1, none⟩) (hg7.block q HI6A.out.siz.2 (fun e => HI6A.out.ap e.symm))).trans HI6A.out.m.f1
              refine hK.out _ _ ?_ (fun hHeld => ?_)
              · exact True.intro
              clear hK K
              try simp only [Act.put, List.setIfInBounds_toArray, List.set_cons_zero, List.set_cons_succ]
              refine wpAnyH_take (i := 10) (v := ?_) rfl (by kernel_rfl) (by kernel_rfl) (by kernel_rfl) (fun _ _ _ h => h) (Or.inl ⟨by rfl, ?_⟩) (by assumption) ?_
              rotate_left 1
              · (intro w' hSw; (try dsimp only at hSw); go_simp <;> with_reducible rfl)
              simp only [Act.put, List.setIfInBounds_toArray, List.set_cons_zero, List.set_cons_succ]
              refine wpAnyH_ready (rs := [11]) (by kernel_rfl) (by simp) ?_
              refine (AllReadyH.cons rfl (fun K hK => ?_) AllReadyH.nil)
              go_simp
              refine hK.out _ _ ?_ (fun hHeld => ?_)
              · exact True.intro
              clear hK K
              try simp only [Act.put, List.setIfInBounds_toArray, List.set_cons_zero, List.set_cons_succ]
              refine wpAnyH_done (by kernel_rfl) ?_ _
              refine NoPanic.normal ?_
              clear hown7 hg7 hlies m0 m1 mf1 n1 cq fq HI6A HI6 HId
              go_wp2
              go_roundw
              case rel => exact ⟨x + 1, some ⟨gN, 0, none⟩, cap, by go_num, by omega, by rw [← Nat.add_assoc, HKK.out, HST.out, List.length_append]; exact HI7.out⟩
              case measure => simp [intOf] <;> omega
            · skip
              go_simp
              refine hK.out _ _ ?_ (fun hHeld => ?_)
              · exact True.intro
              clear hK K
              try simp only [Act.put, List.setIfInBounds_toArray, List.set_cons_zero, List.set_cons_succ]
              refine wpAnyH_ready (rs := [1]) (by kernel_rfl) (by simp) ?_
              refine (AllReadyH.cons rfl (fun K hK => ?_) AllReadyH.nil)
              go_simp
              refine hK.out _ _ ?_ (fun hHeld => ?_)
              · exact True.intro
              clear hK K
              try simp only [Act.put, List.setIfInBounds_toArray, List.set_cons_zero, List.set_cons_succ]
              refine wpAnyH_ready (rs := [9]) (by kernel_rfl) (by simp) ?_
              refine (AllReadyH.cons rfl (fun K hK => ?_) AllReadyH.nil)
              refine step_append_ints_l Tryd.underlying26 hi hz0 hz1 hz2 (by decide) (by rfl) _ _ (by rfl) q _ (getTo l d root kk) t _ w6.heap.size HI6A.out.own (by simp [Act.eval]) (by simp [Act.eval]) (by simp [go_sem]) hle hq6 ?_; intro gN cap w7 hown7 hg7 hlies; have HI7 := Lib.hid (HI6A.out.push hown7 hg7 hlies); have cq := hg7.cell HI6A.out.m.c1 (fun e => HI6A.out.ap e.symm); have fq := (World.frozen?_of_block (a := ⟨q, 1, none⟩) (hg7.block q HI6A.out.siz.2 (fun e => HI6A.out.ap e.symm))).trans HI6A.out.m.f1
              refine hK.out _ _ ?_ (fun hHeld => ?_)
              · exact True.intro
              clear hK K
              try simp only [Act.put, List.setIfInBounds_toArray, List.set_cons_zero, List.set_cons_succ]
              refine wpAnyH_take (i := 10) (v := ?_) rfl (by kernel_rfl) (by kernel_rfl) (by kernel_rfl) (fun _ _ _ h => h) (Or.inl ⟨by rfl, ?_⟩) (by assumption) ?_
              rotate_left 1
              · (intro w' hSw; (try dsimp only at hSw); go_simp <;> with_reducible rfl)
              simp only [Act.put, List.setIfInBounds_toArray, List.set_cons_zero, List.set_cons_succ]
              refine wpAnyH_ready (rs := [11]) (by kernel_rfl) (by simp) ?_
              refine (AllReadyH.cons rfl (fun K hK => ?_) AllReadyH.nil)
              go_simp
              refine hK.out _ _ ?_ (fun hHeld => ?_)
              · exact True.intro
              clear hK K
              try simp only [Act.put, List.setIfInBounds_toArray, List.set_cons_zero, List.set_cons_succ]
              refine wpAnyH_done (by kernel_rfl) ?_ _
              refine NoPanic.normal ?_
              clear hown7 hg7 hlies m0 m1 mf1 n1 cq fq HI6A HI6 HId
              go_wp2
              go_roundw
              case rel => exact ⟨x + 1, some ⟨gN, 0, none⟩, cap, by go_num, by omega, by rw [← Nat.add_assoc, HKK.out, HST.out, List.length_append]; exact HI7.out⟩
              case measure => simp [intOf] <;> omega
        · obtain rfl : x = z := by omega
          have HI3 : Hid (∃ (A2 : Option Addr) (c2 : Nat), GJ w A l q x (.slice A2 (getTo l d root ((y + 1) * x)).length c2) (getTo l d root ((y + 1) * x)) wr) := ⟨A2, c2, by rw [Nat.add_mul, Nat.one_mul]; exact HI2.out⟩
          clear HI2
          go_wp2
          go_roundw
          case rel =>
            obtain ⟨A3, c3, h3⟩ := HI3.out
            exact ⟨y + 1, A3, c3, by go_num, by omega, h3⟩
          case measure => simp [intOf] <;> omega
    · obtain rfl : y = z := by omega
      obtain ⟨m0, m1, _, mf1⟩ := HI.out.m
      obtain ⟨c0, c1, f0, f1⟩ := HI.out.res
      obtain ⟨z1, z2⟩ := HI.out.siz
      go_wp2
      refine bodyPost_ret (v := .agg #[.int .i64 y, .slice A1 (getTo l d root (y * y)).length c1_]) (by simp [results, Tryd.results50, go_sem, c0, c1]) rfl ?_
      refine ⟨A1, c1_, rfl, ?_, (HI.out.bel.setCell (by simp) _).setCell (by simp) _⟩
      exact OwnI.lower (base := q) (by omega) (OwnI.set_below (by show w.heap.size < _; omega) _ (OwnI.set_below (by show w.heap.size < _; omega) _ HI.out.own))
end Go.Proofs.YtoobkajilbmdhaaDoor
