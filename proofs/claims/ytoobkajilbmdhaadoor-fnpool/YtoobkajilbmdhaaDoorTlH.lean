/- The model's pools: l03Get. -/
import Derived.Test.YtoobkajilbmdhaaDoorTlG
namespace Go.Proofs.YtoobkajilbmdhaaDoor
open Go.RowKit
set_option linter.unusedVariables false
set_option linter.unusedSimpArgs false

/-- One number is appended, in a region that draws; where the new row lies. -/
theorem step_append_ints_l {P : Program} {t e : TypeId} {k : IntKind} {by_ : Nat} {i : TypeInfo} (ht : P.underlying t = some (.slice e)) (hi : P.info? e = some i) (hz : i.zero = some (.int k 0)) (hsz : i.size = 1) (hby : i.bytes = by_) (h8 : by_ ≤ 8)
    {ops : Array Oper} {o : Oper} {a : Act} {K : Act → World → Prop} {Q : Exit → Act → World → Prop} {E : Prop} (hgd : o.guard = none) (s x : Operand)
    (ho : o.op = .call { callee := .builtin .append, args := #[s, x], argTypes := #[t, t] })
    (base : Nat) (v : Value) (l : List Int) (n : Int) (wr : World) (b : Nat) (hown : OwnI e k wr base v l) (hs : a.eval s = v) (hx : a.eval x = .slice (some ⟨b, 0, none⟩) 1 1) (hn : wr.cell? ⟨b, 0, none⟩ = some (.int k n)) (hlen : l.length ≤ 1000000) (hb : base ≤ wr.heap.size)
    (h : ∀ g cap w', OwnI e k w' base (.slice (some ⟨g, 0, none⟩) (l.length + 1) cap) (l ++ [n]) → wr.grownBy w' v.ownBlock → (v.ownBlock = some g ∨ g = wr.heap.size) → K (a.put o.dst (.slice (some ⟨g, 0, none⟩) (l.length + 1) cap)) w') :
    if Region.wanted o (yielded ops a.tmps) = true then Oper.wp P o a wr K Q else E := by
  refine step_append_lies _ hgd s x t ho base e i (.int k 0) 1 by_ ht hi hz hsz hby rfl (by decide) v l.length _ hs hown ⟨b, 0, none⟩ 1 1 [.int k n] hx rfl ?_ ?_ (by decide) ?_ ?_ hb wr.heap.size rfl ?_
  · intro j u hu
    match j, hu with
    | 0, hu => simp at hu; subst hu; simpa [Addr.add] using hn
  · intro u hu; simp at hu; subst hu; rfl
  · unfold maxLen; omega
  · have h1 : (l.length + 1) * by_ ≤ (l.length + 1) * 8 := Nat.mul_le_mul_left _ h8
    omega
  · intro g cap w' hown' hgrow hlies _
    refine h g cap w' ?_ hgrow hlies
    simpa [OwnI] using hown'

set_option maxRecDepth 100000 in
set_option maxHeartbeats 4000000 in
theorem mGet_any (A : Option Addr) (c : Nat) (l : List Nd) (rt side : Int) (w : World) (h : RN w w.heap.size A l) (hr : poolRight l = true) (hs : sideOk side = true) :
    Calls Tryd.prog 60 #[.agg #[.slice A l.length c], .int .i64 rt, .int .i64 side] w fun e w' => GOut w w' (getG l rt side).2.1 (getG l rt side).2.2 (getG l rt side).1 e := by
  obtain ⟨i0, hi, hz0, hz1, hz2⟩ := info_parts Tryd.infoInt
  have HR := Lib.hid hr
  have hl2 := pool_len hr
  have HP0 := Lib.hid ((PB.made w A c l h).below ((Below.refl _ _).alloc (Nat.le_refl _) (.cells #[.int .i64 0, .slice none 0 0, .int .i64 0] 37)))
  have HY0 : Hid (GO ((w.alloc (.cells #[.slice A l.length c] 25)).alloc (.cells #[.int .i64 0, .slice none 0 0, .int .i64 0] 37)) (w.heap.size + 1)) := by
    have := GO.made (w.alloc (.cells #[.slice A l.length c] 25)) 37
    rw [alloc_size] at this
    exact this
  have hTh := fun w => mThere_any A l.length c rt w (by omega)
  have hHs := fun w h => mHeights_any A c l w h HR.out
  have hlen := hts_len l
  clear h hr
  cases ht : thereN l.length rt
  · have HE : Hid (getG l rt side = (6, 0, [])) := by show _ = _; simp [getG, ht]
    rw [HE.out]
    rw [ht] at hTh
    clear ht
    go_enter Tryd.func60, Tryd.ntmps60
    go_wp2_with fail
    refine (hTh _).mono ?_
    rintro e w1 ⟨rfl, hb1⟩
    have HP1 := Lib.hid (HP0.out.below hb1)
    have HY1 := Lib.hid (HY0.out.below hb1 (by simp))
    have hz1' : w.heap.size + 1 < w1.heap.size := by have := hb1.size; simp at this; omega
    clear hb1
    go_wp2_with fail
    refine (mIll_any 6 _).mono ?_
    rintro e w4 ⟨rfl, hb4⟩
    have HP4 := Lib.hid (HP1.out.below hb4)
    obtain ⟨c0, c1, c2, f0, f1, f2⟩ := HY1.out.below hb4 hz1'
    clear hb4
    go_wp2
    refine bodyPost_ret (v := .agg #[.int .i64 0, .slice none 0 0, .int .i64 6]) (by simp [results, Tryd.results60, go_sem, c0, c1, c2]) rfl ?_
    exact ⟨none, 0, rfl, OwnI.nil _ _ _ _, ((HP4.out.bel.setCell (by simp) _).setCell (by simp) _).setCell (by simp) _⟩
  · rw [ht] at hTh
    have h2 : 0 ≤ rt ∧ rt < l.length := by simp [thereN, inIs] at ht; omega
    obtain ⟨root, rfl⟩ := Int.eq_ofNat_of_zero_le h2.1
    have hk : root < l.length := by omega
    have hkh : root < (hts l).length := by rw [hlen]; exact hk
    have HGT : Hid ((hts l).getD root 0 = (hts l)[root]) := by show _ = _; simp [List.getD, hkh]
    have HTH := Lib.hid ht
    clear ht h2
    rcases (sideOk_iff side).1 hs with rfl | rfl | rfl | rfl
    · have hDb : ∀ w, Calls Tryd.prog 97 #[.int .i64 1] w fun e w' => e = .returned (.int .i64 0) ∧ w = w' := fun w => mDoublings_any 0 (by decide) w
      by_cases hh : (hts l)[root] ≤ 0
      · have HE : Hid (getG l root 1 = (0, 1, getTo l 0 root 1)) := by
          show _ = _
          rw [getG, HTH.out, if_pos rfl, if_pos (by show (hts l).getD root 0 ≤ _; rw [HGT.out]; exact hh)]
          rfl
        have hT0 := Lib.hid (fun k (hk' : k < 1) w h => mTileOf_any A c l w h HR.out 0 root (k % 1) (k / 1) (by decide) hk (by rw [HGT.out]; exact hh) (by show k % 1 < 1; omega) (by show k / 1 < 1; omega))
        have hhb : decide ((0 : Int) < (hts l)[root]) = false := decide_eq_false (by omega)
        generalize heq : (hts l)[root] = hv at *
        have HEQ := Lib.hid heq
        clear heq
        go_enter Tryd.func60, Tryd.ntmps60
        go_wp2_with fail
        refine (hTh _).mono ?_
        rintro e w1 ⟨rfl, hb1⟩
        have HP1 := Lib.hid (HP0.out.below hb1)
        have HY1 := Lib.hid (HY0.out.below hb1 (by simp))
        have hz1' : w.heap.size + 1 < w1.heap.size := by have := hb1.size; simp at this; omega
        clear hb1 HP0 HY0
        have p0 := HP1.out.c0
        have HPd := Lib.hid (HP1.out.below (Below.refl _ _).drew)
        have hri : (root : Int) < (l.length : Int) := by omega
        go_wp2_with fail
        first
          | (go_region_with (first
              | (go_at_call 68; refine (hHs _ HPd.out.rn).mono ?_; rintro e w2 ⟨A', c', rfl, ho2, hb2⟩; have HP2 := Lib.hid (HPd.out.below hb2); have HY2 := Lib.hid (HY1.out.below ((Below.refl w1.heap.size w1).drew.trans hb2) hz1'); have hz2' : w.heap.size + 1 < w2.heap.size := Nat.lt_of_lt_of_le hz1' hb2.size; obtain ⟨gh, rfl, _, _, hch, _⟩ := ho2.at_ (j := root) hkh; rw [HEQ.out] at hch; clear ho2 hb2)
              | (go_at_call 97; refine (hDb _).mono ?_; rintro e w3 ⟨rfl, rfl⟩)))
          | fail
        all_goals
          clear p0 hch HP1 HY1 HPd hhb hh
          have HI0 : Hid (GI w A c l w2.heap.size 1 (.slice none 0 0) [] (w2.alloc (.cells #[.int .i64 1, .slice none 0 0] 28))) :=
            ⟨HP2.out.below ((Below.refl _ _).alloc (Nat.le_refl _) _), HY2.out.below ((Below.refl (w2.heap.size) _).alloc (Nat.le_refl _) _) hz2', GB.made _ _ _ _, OwnI.nil _ _ _ _, ⟨hz2', by simp⟩, by simp [Value.ownBlock]⟩
          go_wp2
          generalize w2.alloc (.cells #[.int .i64 1, .slice none 0 0] 28) = w5 at *
          generalize hqq : w2.heap.size = q at *
          clear hqq
          go_loopw [8] (fun i wr => ∃ (k : Nat) (A2 : Option Addr) (c2 : Nat), i = .int .i64 k ∧ k ≤ 1 ∧ GI w A c l q 1 (.slice A2 (getTo l 0 root k).length c2) (getTo l 0 root k) wr) (fun i _ => 1 - (intOf i).toNat)
          case atStart => exact ⟨0, none, 0, rfl, Nat.zero_le _, HI0.out⟩
          case round =>
            obtain ⟨k, A2, c2, rfl, hkN, hgi⟩ := hrel
            have HI := Lib.hid hgi
            clear HI0 hgi
            have hkk : (k : Int) ≤ 1 := by omega
            have hle : (getTo l 0 root k).length ≤ 1000000 := by rw [getTo_len]; omega
            by_cases hlt : k < 1
            · obtain rfl : k = 0 := by omega
              have hT := hT0.out 0 hlt
              have HST : Hid (getTo l 0 root (0 + 1) = getTo l 0 root 0 ++ [tileN l 0 root (0 % 1) (0 / 1)]) := rfl
              have ex : ((0 % 1 : Nat) : Int) = 0 := rfl
              have ey : ((0 / 1 : Nat) : Int) = 0 := rfl
              rw [ex] at hT
              have ed : ((2 ^ 0 : Nat) : Int) = 1 := by decide
              rw [ed] at hT
              generalize tileN l 0 root (0 % 1) (0 / 1) = t at *
              have htm : (0 : Int).tmod 1 = 0 := by decide
              have hdv : IntKind.i64.wrap 0 = 0 := by decide
              have hltN : (0 : Int) < 1 := by decide
              have HId := Lib.hid HI.out.drew
              have p0 := HI.out.pb.c0
              obtain ⟨m0, m1, _, mf1⟩ := HI.out.m
              clear ex ey ed hT0
              go_wp2_with fail
              refine wp_region_noPanic ?_
              refine wp_region_held_drew (S := (fun w' => w'.cell? ⟨w.heap.size, 0, none⟩ = some (.slice A l.length c))) (by kernel_rfl) p0 (fun hHeld => ?_)
              refine wpAnyH_take (i := 0) (v := ?_) rfl (by kernel_rfl) (by kernel_rfl) (by kernel_rfl) (fun _ _ _ h => h) (Or.inl ⟨by rfl, ?_⟩) (by assumption) ?_
              rotate_left 1
              · (intro w' hSw; (try dsimp only at hSw); go_simp <;> with_reducible rfl)
              simp only [Act.put, List.setIfInBounds_toArray, List.set_cons_zero, List.set_cons_succ]
              refine wpAnyH_take (i := 2) (v := ?_) rfl (by kernel_rfl) (by kernel_rfl) (by kernel_rfl) (fun _ _ _ h => h) (Or.inl ⟨by rfl, ?_⟩) (by assumption) ?_
              rotate_left 1
              · (intro w' hSw; (try dsimp only at hSw); go_simp <;> with_reducible rfl)
              simp only [Act.put, List.setIfInBounds_toArray, List.set_cons_zero, List.set_cons_succ]
              refine wpAnyH_take (i := 3) (v := ?_) rfl (by kernel_rfl) (by kernel_rfl) (by kernel_rfl) (fun _ _ _ h => h) (Or.inl ⟨by rfl, ?_⟩) (by assumption) ?_
              rotate_left 1
              · (intro w' hSw; (try dsimp only at hSw); go_simp <;> with_reducible rfl)
              simp only [Act.put, List.setIfInBounds_toArray, List.set_cons_zero, List.set_cons_succ]
              refine wpAnyH_take (i := 4) (v := ?_) rfl (by kernel_rfl) (by kernel_rfl) (by kernel_rfl) (fun _ _ _ h => h) (Or.inl ⟨by rfl, ?_⟩) (by assumption) ?_
              rotate_left 1
              · (intro w' hSw; (try dsimp only at hSw); go_simp <;> with_reducible rfl)
              simp only [Act.put, List.setIfInBounds_toArray, List.set_cons_zero, List.set_cons_succ]
              refine wpAnyH_take (i := 5) (v := ?_) rfl (by kernel_rfl) (by kernel_rfl) (by kernel_rfl) (fun _ _ _ h => h) (Or.inl ⟨by rfl, ?_⟩) (by assumption) ?_
              rotate_left 1
              · (intro w' hSw; (try dsimp only at hSw); go_simp <;> with_reducible rfl)
              simp only [Act.put, List.setIfInBounds_toArray, List.set_cons_zero, List.set_cons_succ]
              refine wpAnyH_take (i := 6) (v := ?_) rfl (by kernel_rfl) (by kernel_rfl) (by kernel_rfl) (fun _ _ _ h => h) (Or.inl ⟨by rfl, ?_⟩) (by assumption) ?_
              rotate_left 1
              · (intro w' hSw; (try dsimp only at hSw); go_simp <;> with_reducible rfl)
              simp only [Act.put, List.setIfInBounds_toArray, List.set_cons_zero, List.set_cons_succ]
              refine wpAnyH_take (i := 7) (v := ?_) rfl (by kernel_rfl) (by kernel_rfl) (by kernel_rfl) (fun _ _ _ h => h) (Or.inl ⟨by rfl, ?_⟩) (by assumption) ?_
              rotate_left 1
              · (intro w' hSw; (try dsimp only at hSw); go_simp <;> with_reducible rfl)
              simp only [Act.put, List.setIfInBounds_toArray, List.set_cons_zero, List.set_cons_succ]
              refine wpAnyH_take (i := 8) (v := ?_) rfl (by kernel_rfl) (by kernel_rfl) (by kernel_rfl) (fun _ _ _ h => h) (Or.inl ⟨by rfl, ?_⟩) (by assumption) ?_
              rotate_left 1
              · (intro w' hSw; (try dsimp only at hSw); go_simp <;> with_reducible rfl)
              simp only [Act.put, List.setIfInBounds_toArray, List.set_cons_zero, List.set_cons_succ]
              refine wpAnyH_take (i := 9) (v := ?_) rfl (by kernel_rfl) (by kernel_rfl) (by kernel_rfl) (fun _ _ _ h => h) (Or.inl ⟨by rfl, ?_⟩) (by assumption) ?_
              rotate_left 1
              · (intro w' hSw; (try dsimp only at hSw); go_simp <;> with_reducible rfl)
              simp only [Act.put, List.setIfInBounds_toArray, List.set_cons_zero, List.set_cons_succ]
              refine wpAnyH_take (i := 10) (v := ?_) rfl (by kernel_rfl) (by kernel_rfl) (by kernel_rfl) (fun _ _ _ h => h) (Or.inl ⟨by rfl, ?_⟩) (by assumption) ?_
              rotate_left 1
              · (intro w' hSw; (try dsimp only at hSw); go_simp <;> with_reducible rfl)
              simp only [Act.put, List.setIfInBounds_toArray, List.set_cons_zero, List.set_cons_succ]
              refine wpAnyH_ready (rs := [1, 11]) (by kernel_rfl) (by simp) ?_
              refine (AllReadyH.cons rfl (fun K hK => ?_) (AllReadyH.cons rfl (fun K hK => ?_) AllReadyH.nil))
              · skip
                go_simp
                refine hK.out _ _ ?_ (fun hHeld => ?_)
                · (first | (with_reducible exact hHeld) | (with_reducible exact hk7) | (with_reducible exact hk6) | exact hk5 | go_keep)
                clear hK K
                try simp only [Act.put, List.setIfInBounds_toArray, List.set_cons_zero, List.set_cons_succ]
                refine wpAnyH_ready (rs := [11]) (by kernel_rfl) (by simp) ?_
                refine (AllReadyH.cons rfl (fun K hK => ?_) AllReadyH.nil)
                go_simp
                (go_at_call 98; refine (hT _ HId.out.pb.rn).mono ?_; rintro e w6 ⟨rfl, hb6⟩; have HI6 := Lib.hid (HId.out.below hb6); clear hb6; have HI6A := Lib.hid (HI6.out.below ((Below.refl _ _).alloc (Nat.le_refl _) (.cells #[.int .i64 t] 2))); have hq6 : q ≤ (w6.alloc (.cells #[.int .i64 t] 2)).heap.size := Nat.le_of_lt HI6A.out.siz.2; have n1 := HI6.out.m.c1; have hqz6 : q < w6.heap.size := HI6.out.siz.2; have hk5 := HI6.out.pb.c0; have hwz6 : w.heap.size < w6.heap.size := HI6.out.pb.siz; have hlow : ∀ b, Value.ownBlock (.slice A2 (getTo l 0 root 0).length c2) = some b → b ≠ w.heap.size := fun b hb => by (have h1 := (World.ownsRow.lt HI6.out.own b hb).1; have h2 := HI6.out.siz.1; omega))
                try go_wp2_with fail
                refine hK.out _ _ ?_ (fun hHeld => ?_)
                · (first | (with_reducible exact hHeld) | (with_reducible exact hk7) | (with_reducible exact hk6) | exact hk5 | go_keep)
                clear hK K
                try simp only [Act.put, List.setIfInBounds_toArray, List.set_cons_zero, List.set_cons_succ]
                refine wpAnyH_ready (rs := [12]) (by kernel_rfl) (by simp) ?_
                refine (AllReadyH.cons rfl (fun K hK => ?_) AllReadyH.nil)
                go_simp
                refine hK.out _ _ ?_ (fun hHeld => ?_)
                · (first | (with_reducible exact hHeld) | (with_reducible exact hk7) | (with_reducible exact hk6) | exact hk5 | go_keep)
                clear hK K
                try simp only [Act.put, List.setIfInBounds_toArray, List.set_cons_zero, List.set_cons_succ]
                refine wpAnyH_ready (rs := [13]) (by kernel_rfl) (by simp) ?_
                refine (AllReadyH.cons rfl (fun K hK => ?_) AllReadyH.nil)
                refine step_append_ints_l Tryd.underlying26 hi hz0 hz1 hz2 (by decide) (by rfl) _ _ (by rfl) q _ (getTo l 0 root 0) t _ w6.heap.size HI6A.out.own (by simp [Act.eval]) (by simp [Act.eval]) (by simp [go_sem]) hle hq6 ?_; intro gN cap w7 hown7 hg7 hlies; have HI7 := Lib.hid (HI6A.out.push hown7 hg7 hlies); have cq := hg7.cell HI6A.out.m.c1 (fun e => HI6A.out.ap e.symm); have fq := (World.frozen?_of_block (a := ⟨q, 1, none⟩) (hg7.block q HI6A.out.siz.2 (fun e => HI6A.out.ap e.symm))).trans HI6A.out.m.f1; have hk7 := hg7.cell HI6A.out.pb.c0 (fun e => hlow _ e.symm rfl); have hk6 := HI7.out.pb.c0
                refine hK.out _ _ ?_ (fun hHeld => ?_)
                · (first | (with_reducible exact hHeld) | (with_reducible exact hk7) | (with_reducible exact hk6) | exact hk5 | go_keep)
                clear hK K
                try simp only [Act.put, List.setIfInBounds_toArray, List.set_cons_zero, List.set_cons_succ]
                refine wpAnyH_take (i := 14) (v := ?_) rfl (by kernel_rfl) (by kernel_rfl) (by kernel_rfl) (fun _ _ _ h => h) (Or.inl ⟨by rfl, ?_⟩) (by assumption) ?_
                rotate_left 1
                · (intro w' hSw; (try dsimp only at hSw); go_simp <;> with_reducible rfl)
                simp only [Act.put, List.setIfInBounds_toArray, List.set_cons_zero, List.set_cons_succ]
                refine wpAnyH_ready (rs := [15]) (by kernel_rfl) (by simp) ?_
                refine (AllReadyH.cons rfl (fun K hK => ?_) AllReadyH.nil)
                go_simp
                refine hK.out _ _ ?_ (fun hHeld => ?_)
                · (first | (with_reducible exact hHeld) | (with_reducible exact hk7) | (with_reducible exact hk6) | exact hk5 | go_keep)
                clear hK K
                try simp only [Act.put, List.setIfInBounds_toArray, List.set_cons_zero, List.set_cons_succ]
                refine wpAnyH_done (by kernel_rfl) ?_ _
                refine NoPanic.normal ?_
                clear hown7 hg7 hlies hk7 hk6 hk5 p0 m0 m1 mf1 n1 cq fq HI6A HI6 HId
                go_wp2
                go_roundw
                case rel => exact ⟨0 + 1, some ⟨gN, 0, none⟩, cap, by go_num, by omega, by rw [HST.out, List.length_append]; exact HI7.out⟩
                case measure => simp [intOf] <;> omega
              · skip
                go_simp
                (go_at_call 98; refine (hT _ HId.out.pb.rn).mono ?_; rintro e w6 ⟨rfl, hb6⟩; have HI6 := Lib.hid (HId.out.below hb6); clear hb6; have HI6A := Lib.hid (HI6.out.below ((Below.refl _ _).alloc (Nat.le_refl _) (.cells #[.int .i64 t] 2))); have hq6 : q ≤ (w6.alloc (.cells #[.int .i64 t] 2)).heap.size := Nat.le_of_lt HI6A.out.siz.2; have n1 := HI6.out.m.c1; have hqz6 : q < w6.heap.size := HI6.out.siz.2; have hk5 := HI6.out.pb.c0; have hwz6 : w.heap.size < w6.heap.size := HI6.out.pb.siz; have hlow : ∀ b, Value.ownBlock (.slice A2 (getTo l 0 root 0).length c2) = some b → b ≠ w.heap.size := fun b hb => by (have h1 := (World.ownsRow.lt HI6.out.own b hb).1; have h2 := HI6.out.siz.1; omega))
                try go_wp2_with fail
                refine hK.out _ _ ?_ (fun hHeld => ?_)
                · (first | (with_reducible exact hHeld) | (with_reducible exact hk7) | (with_reducible exact hk6) | exact hk5 | go_keep)
                clear hK K
                try simp only [Act.put, List.setIfInBounds_toArray, List.set_cons_zero, List.set_cons_succ]
                refine wpAnyH_ready (rs := [1, 12]) (by kernel_rfl) (by simp) ?_
                refine (AllReadyH.cons rfl (fun K hK => ?_) (AllReadyH.cons rfl (fun K hK => ?_) AllReadyH.nil))
                · skip
                  go_simp
                  refine hK.out _ _ ?_ (fun hHeld => ?_)
                  · (first | (with_reducible exact hHeld) | (with_reducible exact hk7) | (with_reducible exact hk6) | exact hk5 | go_keep)
                  clear hK K
                  try simp only [Act.put, List.setIfInBounds_toArray, List.set_cons_zero, List.set_cons_succ]
                  refine wpAnyH_ready (rs := [12]) (by kernel_rfl) (by simp) ?_
                  refine (AllReadyH.cons rfl (fun K hK => ?_) AllReadyH.nil)
                  go_simp
                  refine hK.out _ _ ?_ (fun hHeld => ?_)
                  · (first | (with_reducible exact hHeld) | (with_reducible exact hk7) | (with_reducible exact hk6) | exact hk5 | go_keep)
                  clear hK K
                  try simp only [Act.put, List.setIfInBounds_toArray, List.set_cons_zero, List.set_cons_succ]
                  refine wpAnyH_ready (rs := [13]) (by kernel_rfl) (by simp) ?_
                  refine (AllReadyH.cons rfl (fun K hK => ?_) AllReadyH.nil)
                  refine step_append_ints_l Tryd.underlying26 hi hz0 hz1 hz2 (by decide) (by rfl) _ _ (by rfl) q _ (getTo l 0 root 0) t _ w6.heap.size HI6A.out.own (by simp [Act.eval]) (by simp [Act.eval]) (by simp [go_sem]) hle hq6 ?_; intro gN cap w7 hown7 hg7 hlies; have HI7 := Lib.hid (HI6A.out.push hown7 hg7 hlies); have cq := hg7.cell HI6A.out.m.c1 (fun e => HI6A.out.ap e.symm); have fq := (World.frozen?_of_block (a := ⟨q, 1, none⟩) (hg7.block q HI6A.out.siz.2 (fun e => HI6A.out.ap e.symm))).trans HI6A.out.m.f1; have hk7 := hg7.cell HI6A.out.pb.c0 (fun e => hlow _ e.symm rfl); have hk6 := HI7.out.pb.c0
                  refine hK.out _ _ ?_ (fun hHeld => ?_)
                  · (first | (with_reducible exact hHeld) | (with_reducible exact hk7) | (with_reducible exact hk6) | exact hk5 | go_keep)
                  clear hK K
                  try simp only [Act.put, List.setIfInBounds_toArray, List.set_cons_zero, List.set_cons_succ]
                  refine wpAnyH_take (i := 14) (v := ?_) rfl (by kernel_rfl) (by kernel_rfl) (by kernel_rfl) (fun _ _ _ h => h) (Or.inl ⟨by rfl, ?_⟩) (by assumption) ?_
                  rotate_left 1
                  · (intro w' hSw; (try dsimp only at hSw); go_simp <;> with_reducible rfl)
                  simp only [Act.put, List.setIfInBounds_toArray, List.set_cons_zero, List.set_cons_succ]
                  refine wpAnyH_ready (rs := [15]) (by kernel_rfl) (by simp) ?_
                  refine (AllReadyH.cons rfl (fun K hK => ?_) AllReadyH.nil)
                  go_simp
                  refine hK.out _ _ ?_ (fun hHeld => ?_)
                  · (first | (with_reducible exact hHeld) | (with_reducible exact hk7) | (with_reducible exact hk6) | exact hk5 | go_keep)
                  clear hK K
                  try simp only [Act.put, List.setIfInBounds_toArray, List.set_cons_zero, List.set_cons_succ]
                  refine wpAnyH_done (by kernel_rfl) ?_ _
                  refine NoPanic.normal ?_
                  clear hown7 hg7 hlies hk7 hk6 hk5 p0 m0 m1 mf1 n1 cq fq HI6A HI6 HId
                  go_wp2
                  go_roundw
                  case rel => exact ⟨0 + 1, some ⟨gN, 0, none⟩, cap, by go_num, by omega, by rw [HST.out, List.length_append]; exact HI7.out⟩
                  case measure => simp [intOf] <;> omega
                · skip
                  go_simp
                  refine hK.out _ _ ?_ (fun hHeld => ?_)
                  · (first | (with_reducible exact hHeld) | (with_reducible exact hk7) | (with_reducible exact hk6) | exact hk5 | go_keep)
                  clear hK K
                  try simp only [Act.put, List.setIfInBounds_toArray, List.set_cons_zero, List.set_cons_succ]
                  refine wpAnyH_ready (rs := [1]) (by kernel_rfl) (by simp) ?_
                  refine (AllReadyH.cons rfl (fun K hK => ?_) AllReadyH.nil)
                  go_simp
                  refine hK.out _ _ ?_ (fun hHeld => ?_)
                  · (first | (with_reducible exact hHeld) | (with_reducible exact hk7) | (with_reducible exact hk6) | exact hk5 | go_keep)
                  clear hK K
                  try simp only [Act.put, List.setIfInBounds_toArray, List.set_cons_zero, List.set_cons_succ]
                  refine wpAnyH_ready (rs := [13]) (by kernel_rfl) (by simp) ?_
                  refine (AllReadyH.cons rfl (fun K hK => ?_) AllReadyH.nil)
                  refine step_append_ints_l Tryd.underlying26 hi hz0 hz1 hz2 (by decide) (by rfl) _ _ (by rfl) q _ (getTo l 0 root 0) t _ w6.heap.size HI6A.out.own (by simp [Act.eval]) (by simp [Act.eval]) (by simp [go_sem]) hle hq6 ?_; intro gN cap w7 hown7 hg7 hlies; have HI7 := Lib.hid (HI6A.out.push hown7 hg7 hlies); have cq := hg7.cell HI6A.out.m.c1 (fun e => HI6A.out.ap e.symm); have fq := (World.frozen?_of_block (a := ⟨q, 1, none⟩) (hg7.block q HI6A.out.siz.2 (fun e => HI6A.out.ap e.symm))).trans HI6A.out.m.f1; have hk7 := hg7.cell HI6A.out.pb.c0 (fun e => hlow _ e.symm rfl); have hk6 := HI7.out.pb.c0
                  refine hK.out _ _ ?_ (fun hHeld => ?_)
                  · (first | (with_reducible exact hHeld) | (with_reducible exact hk7) | (with_reducible exact hk6) | exact hk5 | go_keep)
                  clear hK K
                  try simp only [Act.put, List.setIfInBounds_toArray, List.set_cons_zero, List.set_cons_succ]
                  refine wpAnyH_take (i := 14) (v := ?_) rfl (by kernel_rfl) (by kernel_rfl) (by kernel_rfl) (fun _ _ _ h => h) (Or.inl ⟨by rfl, ?_⟩) (by assumption) ?_
                  rotate_left 1
                  · (intro w' hSw; (try dsimp only at hSw); go_simp <;> with_reducible rfl)
                  simp only [Act.put, List.setIfInBounds_toArray, List.set_cons_zero, List.set_cons_succ]
                  refine wpAnyH_ready (rs := [15]) (by kernel_rfl) (by simp) ?_
                  refine (AllReadyH.cons rfl (fun K hK => ?_) AllReadyH.nil)
                  go_simp
                  refine hK.out _ _ ?_ (fun hHeld => ?_)
                  · (first | (with_reducible exact hHeld) | (with_reducible exact hk7) | (with_reducible exact hk6) | exact hk5 | go_keep)
                  clear hK K
                  try simp only [Act.put, List.setIfInBounds_toArray, List.set_cons_zero, List.set_cons_succ]
                  refine wpAnyH_done (by kernel_rfl) ?_ _
                  refine NoPanic.normal ?_
                  clear hown7 hg7 hlies hk7 hk6 hk5 p0 m0 m1 mf1 n1 cq fq HI6A HI6 HId
                  go_wp2
                  go_roundw
                  case rel => exact ⟨0 + 1, some ⟨gN, 0, none⟩, cap, by go_num, by omega, by rw [HST.out, List.length_append]; exact HI7.out⟩
                  case measure => simp [intOf] <;> omega
            · obtain rfl : k = 1 := by omega
              obtain ⟨m0, m1, _, mf1⟩ := HI.out.m
              obtain ⟨c0, c1, c2', f0, f1, f2⟩ := HI.out.res
              obtain ⟨z1, z2⟩ := HI.out.siz
              go_wp2
              refine bodyPost_ret (v := .agg #[.int .i64 1, .slice A2 (getTo l 0 root 1).length c2, .int .i64 0]) (by simp [results, Tryd.results60, go_sem, c0, c1, c2']) rfl ?_
              rw [HE.out]
              refine ⟨A2, c2, rfl, ?_, ((HI.out.pb.bel.setCell (by simp) _).setCell (by simp) _).setCell (by simp) _⟩
              exact OwnI.lower (base := q) (by omega) (OwnI.set_below (by show w.heap.size + 1 < _; omega) _ (OwnI.set_below (by show w.heap.size + 1 < _; omega) _ (OwnI.set_below (by show w.heap.size + 1 < _; omega) _ HI.out.own)))
      · have HE : Hid (getG l root 1 = (8, 0, [])) := by
          show _ = _
          rw [getG, HTH.out, if_pos rfl, if_neg (by show ¬ (hts l).getD root 0 ≤ _; rw [HGT.out]; exact hh)]
        have hhb : decide ((0 : Int) < (hts l)[root]) = true := decide_eq_true (by omega)
        generalize heq : (hts l)[root] = hv at *
        have HEQ := Lib.hid heq
        clear heq
        go_enter Tryd.func60, Tryd.ntmps60
        go_wp2_with fail
        refine (hTh _).mono ?_
        rintro e w1 ⟨rfl, hb1⟩
        have HP1 := Lib.hid (HP0.out.below hb1)
        have HY1 := Lib.hid (HY0.out.below hb1 (by simp))
        have hz1' : w.heap.size + 1 < w1.heap.size := by have := hb1.size; simp at this; omega
        clear hb1 HP0 HY0
        have p0 := HP1.out.c0
        have HPd := Lib.hid (HP1.out.below (Below.refl _ _).drew)
        have hri : (root : Int) < (l.length : Int) := by omega
        go_wp2_with fail
        first
          | (go_region_with (first
              | (go_at_call 68; refine (hHs _ HPd.out.rn).mono ?_; rintro e w2 ⟨A', c', rfl, ho2, hb2⟩; have HP2 := Lib.hid (HPd.out.below hb2); have HY2 := Lib.hid (HY1.out.below ((Below.refl w1.heap.size w1).drew.trans hb2) hz1'); have hz2' : w.heap.size + 1 < w2.heap.size := Nat.lt_of_lt_of_le hz1' hb2.size; obtain ⟨gh, rfl, _, _, hch, _⟩ := ho2.at_ (j := root) hkh; rw [HEQ.out] at hch; clear ho2 hb2)
              | (go_at_call 97; refine (hDb _).mono ?_; rintro e w3 ⟨rfl, rfl⟩)))
          | fail
        all_goals
          clear p0 hch HP1 HY1 HPd
          go_wp2_with fail
          refine (mIll_any 8 _).mono ?_
          rintro e w4 ⟨rfl, hb4⟩
          have HP4 := Lib.hid (HP2.out.below hb4)
          obtain ⟨c0, c1, c2, f0, f1, f2⟩ := HY2.out.below hb4 hz2'
          clear hb4
          go_wp2
          refine bodyPost_ret (v := .agg #[.int .i64 0, .slice none 0 0, .int .i64 8]) (by simp [results, Tryd.results60, go_sem, c0, c1, c2]) rfl ?_
          rw [HE.out]
          exact ⟨none, 0, rfl, OwnI.nil _ _ _ _, ((HP4.out.bel.setCell (by simp) _).setCell (by simp) _).setCell (by simp) _⟩
    · have hDb : ∀ w, Calls Tryd.prog 97 #[.int .i64 2] w fun e w' => e = .returned (.int .i64 1) ∧ w = w' := fun w => mDoublings_any 1 (by decide) w
      by_cases hh : (hts l)[root] ≤ 1
      · have HE : Hid (getG l root 2 = (0, 2, getTo l 1 root 4)) := by
          show _ = _
          rw [getG, HTH.out, if_pos rfl, if_pos (by show (hts l).getD root 0 ≤ _; rw [HGT.out]; exact hh)]
          rfl
        have hT0 := Lib.hid (fun k (hk' : k < 4) w h => mTileOf_any A c l w h HR.out 1 root (k % 2) (k / 2) (by decide) hk (by rw [HGT.out]; exact hh) (by show k % 2 < 2; omega) (by show k / 2 < 2; omega))
        have hhb : decide ((1 : Int) < (hts l)[root]) = false := decide_eq_false (by omega)
        generalize heq : (hts l)[root] = hv at *
        have HEQ := Lib.hid heq
        clear heq
        go_enter Tryd.func60, Tryd.ntmps60
        go_wp2_with fail
        refine (hTh _).mono ?_
        rintro e w1 ⟨rfl, hb1⟩
        have HP1 := Lib.hid (HP0.out.below hb1)
        have HY1 := Lib.hid (HY0.out.below hb1 (by simp))
        have hz1' : w.heap.size + 1 < w1.heap.size := by have := hb1.size; simp at this; omega
        clear hb1 HP0 HY0
        have p0 := HP1.out.c0
        have HPd := Lib.hid (HP1.out.below (Below.refl _ _).drew)
        have hri : (root : Int) < (l.length : Int) := by omega
        go_wp2_with fail
        first
          | (go_region_with (first
              | (go_at_call 68; refine (hHs _ HPd.out.rn).mono ?_; rintro e w2 ⟨A', c', rfl, ho2, hb2⟩; have HP2 := Lib.hid (HPd.out.below hb2); have HY2 := Lib.hid (HY1.out.below ((Below.refl w1.heap.size w1).drew.trans hb2) hz1'); have hz2' : w.heap.size + 1 < w2.heap.size := Nat.lt_of_lt_of_le hz1' hb2.size; obtain ⟨gh, rfl, _, _, hch, _⟩ := ho2.at_ (j := root) hkh; rw [HEQ.out] at hch; clear ho2 hb2)
              | (go_at_call 97; refine (hDb _).mono ?_; rintro e w3 ⟨rfl, rfl⟩)))
          | fail
        all_goals
          clear p0 hch HP1 HY1 HPd hhb hh
          have HI0 : Hid (GI w A c l w2.heap.size 2 (.slice none 0 0) [] (w2.alloc (.cells #[.int .i64 2, .slice none 0 0] 28))) :=
            ⟨HP2.out.below ((Below.refl _ _).alloc (Nat.le_refl _) _), HY2.out.below ((Below.refl (w2.heap.size) _).alloc (Nat.le_refl _) _) hz2', GB.made _ _ _ _, OwnI.nil _ _ _ _, ⟨hz2', by simp⟩, by simp [Value.ownBlock]⟩
          go_wp2
          generalize w2.alloc (.cells #[.int .i64 2, .slice none 0 0] 28) = w5 at *
          generalize hqq : w2.heap.size = q at *
          clear hqq
          go_loopw [8] (fun i wr => ∃ (k : Nat) (A2 : Option Addr) (c2 : Nat), i = .int .i64 k ∧ k ≤ 4 ∧ GI w A c l q 2 (.slice A2 (getTo l 1 root k).length c2) (getTo l 1 root k) wr) (fun i _ => 4 - (intOf i).toNat)
          case atStart => exact ⟨0, none, 0, rfl, Nat.zero_le _, HI0.out⟩
          case round =>
            obtain ⟨k, A2, c2, rfl, hkN, hgi⟩ := hrel
            have HI := Lib.hid hgi
            clear HI0 hgi
            have hkk : (k : Int) ≤ 4 := by omega
            have hle : (getTo l 1 root k).length ≤ 1000000 := by rw [getTo_len]; omega
            by_cases hlt : k < 4
            · have hT := hT0.out k hlt
              have HST : Hid (getTo l 1 root (k + 1) = getTo l 1 root k ++ [tileN l 1 root (k % 2) (k / 2)]) := rfl
              have ex : ((k % 2 : Nat) : Int) = (k : Int) % 2 := by omega
              have ey : ((k / 2 : Nat) : Int) = (k : Int) / 2 := by omega
              rw [ex, ey] at hT
              have ed : ((2 ^ 1 : Nat) : Int) = 2 := by decide
              rw [ed] at hT
              generalize tileN l 1 root (k % 2) (k / 2) = t at *
              have htm : (k : Int).tmod 2 = (k : Int) % 2 := Int.tmod_eq_emod_of_nonneg (by omega)
              have hdv : IntKind.i64.wrap ((k : Int) / 2) = (k : Int) / 2 := IntWalk.i64_in _ (by omega)
              have hltN : (k : Int) < 4 := by omega
              have HId := Lib.hid HI.out.drew
              have p0 := HI.out.pb.c0
              obtain ⟨m0, m1, _, mf1⟩ := HI.out.m
              clear ex ey ed hT0
              go_wp2_with fail
              refine wp_region_noPanic ?_
              refine wp_region_held_drew (S := (fun w' => w'.cell? ⟨w.heap.size, 0, none⟩ = some (.slice A l.length c))) (by kernel_rfl) p0 (fun hHeld => ?_)
              refine wpAnyH_take (i := 0) (v := ?_) rfl (by kernel_rfl) (by kernel_rfl) (by kernel_rfl) (fun _ _ _ h => h) (Or.inl ⟨by rfl, ?_⟩) (by assumption) ?_
              rotate_left 1
              · (intro w' hSw; (try dsimp only at hSw); go_simp <;> with_reducible rfl)
              simp only [Act.put, List.setIfInBounds_toArray, List.set_cons_zero, List.set_cons_succ]
              refine wpAnyH_take (i := 2) (v := ?_) rfl (by kernel_rfl) (by kernel_rfl) (by kernel_rfl) (fun _ _ _ h => h) (Or.inl ⟨by rfl, ?_⟩) (by assumption) ?_
              rotate_left 1
              · (intro w' hSw; (try dsimp only at hSw); go_simp <;> with_reducible rfl)
              simp only [Act.put, List.setIfInBounds_toArray, List.set_cons_zero, List.set_cons_succ]
              refine wpAnyH_take (i := 3) (v := ?_) rfl (by kernel_rfl) (by kernel_rfl) (by kernel_rfl) (fun _ _ _ h => h) (Or.inl ⟨by rfl, ?_⟩) (by assumption) ?_
              rotate_left 1
              · (intro w' hSw; (try dsimp only at hSw); go_simp <;> with_reducible rfl)
              simp only [Act.put, List.setIfInBounds_toArray, List.set_cons_zero, List.set_cons_succ]
              refine wpAnyH_take (i := 4) (v := ?_) rfl (by kernel_rfl) (by kernel_rfl) (by kernel_rfl) (fun _ _ _ h => h) (Or.inl ⟨by rfl, ?_⟩) (by assumption) ?_
              rotate_left 1
              · (intro w' hSw; (try dsimp only at hSw); go_simp <;> with_reducible rfl)
              simp only [Act.put, List.setIfInBounds_toArray, List.set_cons_zero, List.set_cons_succ]
              refine wpAnyH_take (i := 5) (v := ?_) rfl (by kernel_rfl) (by kernel_rfl) (by kernel_rfl) (fun _ _ _ h => h) (Or.inl ⟨by rfl, ?_⟩) (by assumption) ?_
              rotate_left 1
              · (intro w' hSw; (try dsimp only at hSw); go_simp <;> with_reducible rfl)
              simp only [Act.put, List.setIfInBounds_toArray, List.set_cons_zero, List.set_cons_succ]
              refine wpAnyH_take (i := 6) (v := ?_) rfl (by kernel_rfl) (by kernel_rfl) (by kernel_rfl) (fun _ _ _ h => h) (Or.inl ⟨by rfl, ?_⟩) (by assumption) ?_
              rotate_left 1
              · (intro w' hSw; (try dsimp only at hSw); go_simp <;> with_reducible rfl)
              simp only [Act.put, List.setIfInBounds_toArray, List.set_cons_zero, List.set_cons_succ]
              refine wpAnyH_take (i := 7) (v := ?_) rfl (by kernel_rfl) (by kernel_rfl) (by kernel_rfl) (fun _ _ _ h => h) (Or.inl ⟨by rfl, ?_⟩) (by assumption) ?_
              rotate_left 1
              · (intro w' hSw; (try dsimp only at hSw); go_simp <;> with_reducible rfl)
              simp only [Act.put, List.setIfInBounds_toArray, List.set_cons_zero, List.set_cons_succ]
              refine wpAnyH_take (i := 8) (v := ?_) rfl (by kernel_rfl) (by kernel_rfl) (by kernel_rfl) (fun _ _ _ h => h) (Or.inl ⟨by rfl, ?_⟩) (by assumption) ?_
              rotate_left 1
              · (intro w' hSw; (try dsimp only at hSw); go_simp <;> with_reducible rfl)
              simp only [Act.put, List.setIfInBounds_toArray, List.set_cons_zero, List.set_cons_succ]
              refine wpAnyH_take (i := 9) (v := ?_) rfl (by kernel_rfl) (by kernel_rfl) (by kernel_rfl) (fun _ _ _ h => h) (Or.inl ⟨by rfl, ?_⟩) (by assumption) ?_
              rotate_left 1
              · (intro w' hSw; (try dsimp only at hSw); go_simp <;> with_reducible rfl)
              simp only [Act.put, List.setIfInBounds_toArray, List.set_cons_zero, List.set_cons_succ]
              refine wpAnyH_take (i := 10) (v := ?_) rfl (by kernel_rfl) (by kernel_rfl) (by kernel_rfl) (fun _ _ _ h => h) (Or.inl ⟨by rfl, ?_⟩) (by assumption) ?_
              rotate_left 1
              · (intro w' hSw; (try dsimp only at hSw); go_simp <;> with_reducible rfl)
              simp only [Act.put, List.setIfInBounds_toArray, List.set_cons_zero, List.set_cons_succ]
              refine wpAnyH_ready (rs := [1, 11]) (by kernel_rfl) (by simp) ?_
              refine (AllReadyH.cons rfl (fun K hK => ?_) (AllReadyH.cons rfl (fun K hK => ?_) AllReadyH.nil))
              · skip
                go_simp
                refine hK.out _ _ ?_ (fun hHeld => ?_)
                · (first | (with_reducible exact hHeld) | (with_reducible exact hk7) | (with_reducible exact hk6) | exact hk5 | go_keep)
                clear hK K
                try simp only [Act.put, List.setIfInBounds_toArray, List.set_cons_zero, List.set_cons_succ]
                refine wpAnyH_ready (rs := [11]) (by kernel_rfl) (by simp) ?_
                refine (AllReadyH.cons rfl (fun K hK => ?_) AllReadyH.nil)
                go_simp
                (go_at_call 98; refine (hT _ HId.out.pb.rn).mono ?_; rintro e w6 ⟨rfl, hb6⟩; have HI6 := Lib.hid (HId.out.below hb6); clear hb6; have HI6A := Lib.hid (HI6.out.below ((Below.refl _ _).alloc (Nat.le_refl _) (.cells #[.int .i64 t] 2))); have hq6 : q ≤ (w6.alloc (.cells #[.int .i64 t] 2)).heap.size := Nat.le_of_lt HI6A.out.siz.2; have n1 := HI6.out.m.c1; have hqz6 : q < w6.heap.size := HI6.out.siz.2; have hk5 := HI6.out.pb.c0; have hwz6 : w.heap.size < w6.heap.size := HI6.out.pb.siz; have hlow : ∀ b, Value.ownBlock (.slice A2 (getTo l 1 root k).length c2) = some b → b ≠ w.heap.size := fun b hb => by (have h1 := (World.ownsRow.lt HI6.out.own b hb).1; have h2 := HI6.out.siz.1; omega))
                try go_wp2_with fail
                refine hK.out _ _ ?_ (fun hHeld => ?_)
                · (first | (with_reducible exact hHeld) | (with_reducible exact hk7) | (with_reducible exact hk6) | exact hk5 | go_keep)
                clear hK K
                try simp only [Act.put, List.setIfInBounds_toArray, List.set_cons_zero, List.set_cons_succ]
                refine wpAnyH_ready (rs := [12]) (by kernel_rfl) (by simp) ?_
                refine (AllReadyH.cons rfl (fun K hK => ?_) AllReadyH.nil)
                go_simp
                refine hK.out _ _ ?_ (fun hHeld => ?_)
                · (first | (with_reducible exact hHeld) | (with_reducible exact hk7) | (with_reducible exact hk6) | exact hk5 | go_keep)
                clear hK K
                try simp only [Act.put, List.setIfInBounds_toArray, List.set_cons_zero, List.set_cons_succ]
                refine wpAnyH_ready (rs := [13]) (by kernel_rfl) (by simp) ?_
                refine (AllReadyH.cons rfl (fun K hK => ?_) AllReadyH.nil)
                refine step_append_ints_l Tryd.underlying26 hi hz0 hz1 hz2 (by decide) (by rfl) _ _ (by rfl) q _ (getTo l 1 root k) t _ w6.heap.size HI6A.out.own (by simp [Act.eval]) (by simp [Act.eval]) (by simp [go_sem]) hle hq6 ?_; intro gN cap w7 hown7 hg7 hlies; have HI7 := Lib.hid (HI6A.out.push hown7 hg7 hlies); have cq := hg7.cell HI6A.out.m.c1 (fun e => HI6A.out.ap e.symm); have fq := (World.frozen?_of_block (a := ⟨q, 1, none⟩) (hg7.block q HI6A.out.siz.2 (fun e => HI6A.out.ap e.symm))).trans HI6A.out.m.f1; have hk7 := hg7.cell HI6A.out.pb.c0 (fun e => hlow _ e.symm rfl); have hk6 := HI7.out.pb.c0
                refine hK.out _ _ ?_ (fun hHeld => ?_)
                · (first | (with_reducible exact hHeld) | (with_reducible exact hk7) | (with_reducible exact hk6) | exact hk5 | go_keep)
                clear hK K
                try simp only [Act.put, List.setIfInBounds_toArray, List.set_cons_zero, List.set_cons_succ]
                refine wpAnyH_take (i := 14) (v := ?_) rfl (by kernel_rfl) (by kernel_rfl) (by kernel_rfl) (fun _ _ _ h => h) (Or.inl ⟨by rfl, ?_⟩) (by assumption) ?_
                rotate_left 1
                · (intro w' hSw; (try dsimp only at hSw); go_simp <;> with_reducible rfl)
                simp only [Act.put, List.setIfInBounds_toArray, List.set_cons_zero, List.set_cons_succ]
                refine wpAnyH_ready (rs := [15]) (by kernel_rfl) (by simp) ?_
                refine (AllReadyH.cons rfl (fun K hK => ?_) AllReadyH.nil)
                go_simp
                refine hK.out _ _ ?_ (fun hHeld => ?_)
                · (first | (with_reducible exact hHeld) | (with_reducible exact hk7) | (with_reducible exact hk6) | exact hk5 | go_keep)
                clear hK K
                try simp only [Act.put, List.setIfInBounds_toArray, List.set_cons_zero, List.set_cons_succ]
                refine wpAnyH_done (by kernel_rfl) ?_ _
                refine NoPanic.normal ?_
                clear hown7 hg7 hlies hk7 hk6 hk5 p0 m0 m1 mf1 n1 cq fq HI6A HI6 HId
                go_wp2
                go_roundw
                case rel => exact ⟨k + 1, some ⟨gN, 0, none⟩, cap, by go_num, by omega, by rw [HST.out, List.length_append]; exact HI7.out⟩
                case measure => simp [intOf] <;> omega
              · skip
                go_simp
                (go_at_call 98; refine (hT _ HId.out.pb.rn).mono ?_; rintro e w6 ⟨rfl, hb6⟩; have HI6 := Lib.hid (HId.out.below hb6); clear hb6; have HI6A := Lib.hid (HI6.out.below ((Below.refl _ _).alloc (Nat.le_refl _) (.cells #[.int .i64 t] 2))); have hq6 : q ≤ (w6.alloc (.cells #[.int .i64 t] 2)).heap.size := Nat.le_of_lt HI6A.out.siz.2; have n1 := HI6.out.m.c1; have hqz6 : q < w6.heap.size := HI6.out.siz.2; have hk5 := HI6.out.pb.c0; have hwz6 : w.heap.size < w6.heap.size := HI6.out.pb.siz; have hlow : ∀ b, Value.ownBlock (.slice A2 (getTo l 1 root k).length c2) = some b → b ≠ w.heap.size := fun b hb => by (have h1 := (World.ownsRow.lt HI6.out.own b hb).1; have h2 := HI6.out.siz.1; omega))
                try go_wp2_with fail
                refine hK.out _ _ ?_ (fun hHeld => ?_)
                · (first | (with_reducible exact hHeld) | (with_reducible exact hk7) | (with_reducible exact hk6) | exact hk5 | go_keep)
                clear hK K
                try simp only [Act.put, List.setIfInBounds_toArray, List.set_cons_zero, List.set_cons_succ]
                refine wpAnyH_ready (rs := [1, 12]) (by kernel_rfl) (by simp) ?_
                refine (AllReadyH.cons rfl (fun K hK => ?_) (AllReadyH.cons rfl (fun K hK => ?_) AllReadyH.nil))
                · skip
                  go_simp
                  refine hK.out _ _ ?_ (fun hHeld => ?_)
                  · (first | (with_reducible exact hHeld) | (with_reducible exact hk7) | (with_reducible exact hk6) | exact hk5 | go_keep)
                  clear hK K
                  try simp only [Act.put, List.setIfInBounds_toArray, List.set_cons_zero, List.set_cons_succ]
                  refine wpAnyH_ready (rs := [12]) (by kernel_rfl) (by simp) ?_
                  refine (AllReadyH.cons rfl (fun K hK => ?_) AllReadyH.nil)
                  go_simp
                  refine hK.out _ _ ?_ (fun hHeld => ?_)
                  · (first | (with_reducible exact hHeld) | (with_reducible exact hk7) | (with_reducible exact hk6) | exact hk5 | go_keep)
                  clear hK K
                  try simp only [Act.put, List.setIfInBounds_toArray, List.set_cons_zero, List.set_cons_succ]
                  refine wpAnyH_ready (rs := [13]) (by kernel_rfl) (by simp) ?_
                  refine (AllReadyH.cons rfl (fun K hK => ?_) AllReadyH.nil)
                  refine step_append_ints_l Tryd.underlying26 hi hz0 hz1 hz2 (by decide) (by rfl) _ _ (by rfl) q _ (getTo l 1 root k) t _ w6.heap.size HI6A.out.own (by simp [Act.eval]) (by simp [Act.eval]) (by simp [go_sem]) hle hq6 ?_; intro gN cap w7 hown7 hg7 hlies; have HI7 := Lib.hid (HI6A.out.push hown7 hg7 hlies); have cq := hg7.cell HI6A.out.m.c1 (fun e => HI6A.out.ap e.symm); have fq := (World.frozen?_of_block (a := ⟨q, 1, none⟩) (hg7.block q HI6A.out.siz.2 (fun e => HI6A.out.ap e.symm))).trans HI6A.out.m.f1; have hk7 := hg7.cell HI6A.out.pb.c0 (fun e => hlow _ e.symm rfl); have hk6 := HI7.out.pb.c0
                  refine hK.out _ _ ?_ (fun hHeld => ?_)
                  · (first | (with_reducible exact hHeld) | (with_reducible exact hk7) | (with_reducible exact hk6) | exact hk5 | go_keep)
                  clear hK K
                  try simp only [Act.put, List.setIfInBounds_toArray, List.set_cons_zero, List.set_cons_succ]
                  refine wpAnyH_take (i := 14) (v := ?_) rfl (by kernel_rfl) (by kernel_rfl) (by kernel_rfl) (fun _ _ _ h => h) (Or.inl ⟨by rfl, ?_⟩) (by assumption) ?_
                  rotate_left 1
                  · (intro w' hSw; (try dsimp only at hSw); go_simp <;> with_reducible rfl)
                  simp only [Act.put, List.setIfInBounds_toArray, List.set_cons_zero, List.set_cons_succ]
                  refine wpAnyH_ready (rs := [15]) (by kernel_rfl) (by simp) ?_
                  refine (AllReadyH.cons rfl (fun K hK => ?_) AllReadyH.nil)
                  go_simp
                  refine hK.out _ _ ?_ (fun hHeld => ?_)
                  · (first | (with_reducible exact hHeld) | (with_reducible exact hk7) | (with_reducible exact hk6) | exact hk5 | go_keep)
                  clear hK K
                  try simp only [Act.put, List.setIfInBounds_toArray, List.set_cons_zero, List.set_cons_succ]
                  refine wpAnyH_done (by kernel_rfl) ?_ _
                  refine NoPanic.normal ?_
                  clear hown7 hg7 hlies hk7 hk6 hk5 p0 m0 m1 mf1 n1 cq fq HI6A HI6 HId
                  go_wp2
                  go_roundw
                  case rel => exact ⟨k + 1, some ⟨gN, 0, none⟩, cap, by go_num, by omega, by rw [HST.out, List.length_append]; exact HI7.out⟩
                  case measure => simp [intOf] <;> omega
                · skip
                  go_simp
                  refine hK.out _ _ ?_ (fun hHeld => ?_)
                  · (first | (with_reducible exact hHeld) | (with_reducible exact hk7) | (with_reducible exact hk6) | exact hk5 | go_keep)
                  clear hK K
                  try simp only [Act.put, List.setIfInBounds_toArray, List.set_cons_zero, List.set_cons_succ]
                  refine wpAnyH_ready (rs := [1]) (by kernel_rfl) (by simp) ?_
                  refine (AllReadyH.cons rfl (fun K hK => ?_) AllReadyH.nil)
                  go_simp
                  refine hK.out _ _ ?_ (fun hHeld => ?_)
                  · (first | (with_reducible exact hHeld) | (with_reducible exact hk7) | (with_reducible exact hk6) | exact hk5 | go_keep)
                  clear hK K
                  try simp only [Act.put, List.setIfInBounds_toArray, List.set_cons_zero, List.set_cons_succ]
                  refine wpAnyH_ready (rs := [13]) (by kernel_rfl) (by simp) ?_
                  refine (AllReadyH.cons rfl (fun K hK => ?_) AllReadyH.nil)
                  refine step_append_ints_l Tryd.underlying26 hi hz0 hz1 hz2 (by decide) (by rfl) _ _ (by rfl) q _ (getTo l 1 root k) t _ w6.heap.size HI6A.out.own (by simp [Act.eval]) (by simp [Act.eval]) (by simp [go_sem]) hle hq6 ?_; intro gN cap w7 hown7 hg7 hlies; have HI7 := Lib.hid (HI6A.out.push hown7 hg7 hlies); have cq := hg7.cell HI6A.out.m.c1 (fun e => HI6A.out.ap e.symm); have fq := (World.frozen?_of_block (a := ⟨q, 1, none⟩) (hg7.block q HI6A.out.siz.2 (fun e => HI6A.out.ap e.symm))).trans HI6A.out.m.f1; have hk7 := hg7.cell HI6A.out.pb.c0 (fun e => hlow _ e.symm rfl); have hk6 := HI7.out.pb.c0
                  refine hK.out _ _ ?_ (fun hHeld => ?_)
                  · (first | (with_reducible exact hHeld) | (with_reducible exact hk7) | (with_reducible exact hk6) | exact hk5 | go_keep)
                  clear hK K
                  try simp only [Act.put, List.setIfInBounds_toArray, List.set_cons_zero, List.set_cons_succ]
                  refine wpAnyH_take (i := 14) (v := ?_) rfl (by kernel_rfl) (by kernel_rfl) (by kernel_rfl) (fun _ _ _ h => h) (Or.inl ⟨by rfl, ?_⟩) (by assumption) ?_
                  rotate_left 1
                  · (intro w' hSw; (try dsimp only at hSw); go_simp <;> with_reducible rfl)
                  simp only [Act.put, List.setIfInBounds_toArray, List.set_cons_zero, List.set_cons_succ]
                  refine wpAnyH_ready (rs := [15]) (by kernel_rfl) (by simp) ?_
                  refine (AllReadyH.cons rfl (fun K hK => ?_) AllReadyH.nil)
                  go_simp
                  refine hK.out _ _ ?_ (fun hHeld => ?_)
                  · (first | (with_reducible exact hHeld) | (with_reducible exact hk7) | (with_reducible exact hk6) | exact hk5 | go_keep)
                  clear hK K
                  try simp only [Act.put, List.setIfInBounds_toArray, List.set_cons_zero, List.set_cons_succ]
                  refine wpAnyH_done (by kernel_rfl) ?_ _
                  refine NoPanic.normal ?_
                  clear hown7 hg7 hlies hk7 hk6 hk5 p0 m0 m1 mf1 n1 cq fq HI6A HI6 HId
                  go_wp2
                  go_roundw
                  case rel => exact ⟨k + 1, some ⟨gN, 0, none⟩, cap, by go_num, by omega, by rw [HST.out, List.length_append]; exact HI7.out⟩
                  case measure => simp [intOf] <;> omega
            · obtain rfl : k = 4 := by omega
              obtain ⟨m0, m1, _, mf1⟩ := HI.out.m
              obtain ⟨c0, c1, c2', f0, f1, f2⟩ := HI.out.res
              obtain ⟨z1, z2⟩ := HI.out.siz
              go_wp2
              refine bodyPost_ret (v := .agg #[.int .i64 2, .slice A2 (getTo l 1 root 4).length c2, .int .i64 0]) (by simp [results, Tryd.results60, go_sem, c0, c1, c2']) rfl ?_
              rw [HE.out]
              refine ⟨A2, c2, rfl, ?_, ((HI.out.pb.bel.setCell (by simp) _).setCell (by simp) _).setCell (by simp) _⟩
              exact OwnI.lower (base := q) (by omega) (OwnI.set_below (by show w.heap.size + 1 < _; omega) _ (OwnI.set_below (by show w.heap.size + 1 < _; omega) _ (OwnI.set_below (by show w.heap.size + 1 < _; omega) _ HI.out.own)))
      · have HE : Hid (getG l root 2 = (8, 0, [])) := by
          show _ = _
          rw [getG, HTH.out, if_pos rfl, if_neg (by show ¬ (hts l).getD root 0 ≤ _; rw [HGT.out]; exact hh)]
        have hhb : decide ((1 : Int) < (hts l)[root]) = true := decide_eq_true (by omega)
        generalize heq : (hts l)[root] = hv at *
        have HEQ := Lib.hid heq
        clear heq
        go_enter Tryd.func60, Tryd.ntmps60
        go_wp2_with fail
        refine (hTh _).mono ?_
        rintro e w1 ⟨rfl, hb1⟩
        have HP1 := Lib.hid (HP0.out.below hb1)
        have HY1 := Lib.hid (HY0.out.below hb1 (by simp))
        have hz1' : w.heap.size + 1 < w1.heap.size := by have := hb1.size; simp at this; omega
        clear hb1 HP0 HY0
        have p0 := HP1.out.c0
        have HPd := Lib.hid (HP1.out.below (Below.refl _ _).drew)
        have hri : (root : Int) < (l.length : Int) := by omega
        go_wp2_with fail
        first
          | (go_region_with (first
              | (go_at_call 68; refine (hHs _ HPd.out.rn).mono ?_; rintro e w2 ⟨A', c', rfl, ho2, hb2⟩; have HP2 := Lib.hid (HPd.out.below hb2); have HY2 := Lib.hid (HY1.out.below ((Below.refl w1.heap.size w1).drew.trans hb2) hz1'); have hz2' : w.heap.size + 1 < w2.heap.size := Nat.lt_of_lt_of_le hz1' hb2.size; obtain ⟨gh, rfl, _, _, hch, _⟩ := ho2.at_ (j := root) hkh; rw [HEQ.out] at hch; clear ho2 hb2)
              | (go_at_call 97; refine (hDb _).mono ?_; rintro e w3 ⟨rfl, rfl⟩)))
          | fail
        all_goals
          clear p0 hch HP1 HY1 HPd
          go_wp2_with fail
          refine (mIll_any 8 _).mono ?_
          rintro e w4 ⟨rfl, hb4⟩
          have HP4 := Lib.hid (HP2.out.below hb4)
          obtain ⟨c0, c1, c2, f0, f1, f2⟩ := HY2.out.below hb4 hz2'
          clear hb4
          go_wp2
          refine bodyPost_ret (v := .agg #[.int .i64 0, .slice none 0 0, .int .i64 8]) (by simp [results, Tryd.results60, go_sem, c0, c1, c2]) rfl ?_
          rw [HE.out]
          exact ⟨none, 0, rfl, OwnI.nil _ _ _ _, ((HP4.out.bel.setCell (by simp) _).setCell (by simp) _).setCell (by simp) _⟩
    · have hDb : ∀ w, Calls Tryd.prog 97 #[.int .i64 4] w fun e w' => e = .returned (.int .i64 2) ∧ w = w' := fun w => mDoublings_any 2 (by decide) w
      by_cases hh : (hts l)[root] ≤ 2
      · have HE : Hid (getG l root 4 = (0, 4, getTo l 2 root 16)) := by
          show _ = _
          rw [getG, HTH.out, if_pos rfl, if_pos (by show (hts l).getD root 0 ≤ _; rw [HGT.out]; exact hh)]
          rfl
        have hT0 := Lib.hid (fun k (hk' : k < 16) w h => mTileOf_any A c l w h HR.out 2 root (k % 4) (k / 4) (by decide) hk (by rw [HGT.out]; exact hh) (by show k % 4 < 4; omega) (by show k / 4 < 4; omega))
        have hhb : decide ((2 : Int) < (hts l)[root]) = false := decide_eq_false (by omega)
        generalize heq : (hts l)[root] = hv at *
        have HEQ := Lib.hid heq
        clear heq
        go_enter Tryd.func60, Tryd.ntmps60
        go_wp2_with fail
        refine (hTh _).mono ?_
        rintro e w1 ⟨rfl, hb1⟩
        have HP1 := Lib.hid (HP0.out.below hb1)
        have HY1 := Lib.hid (HY0.out.below hb1 (by simp))
        have hz1' : w.heap.size + 1 < w1.heap.size := by have := hb1.size; simp at this; omega
        clear hb1 HP0 HY0
        have p0 := HP1.out.c0
        have HPd := Lib.hid (HP1.out.below (Below.refl _ _).drew)
        have hri : (root : Int) < (l.length : Int) := by omega
        go_wp2_with fail
        first
          | (go_region_with (first
              | (go_at_call 68; refine (hHs _ HPd.out.rn).mono ?_; rintro e w2 ⟨A', c', rfl, ho2, hb2⟩; have HP2 := Lib.hid (HPd.out.below hb2); have HY2 := Lib.hid (HY1.out.below ((Below.refl w1.heap.size w1).drew.trans hb2) hz1'); have hz2' : w.heap.size + 1 < w2.heap.size := Nat.lt_of_lt_of_le hz1' hb2.size; obtain ⟨gh, rfl, _, _, hch, _⟩ := ho2.at_ (j := root) hkh; rw [HEQ.out] at hch; clear ho2 hb2)
              | (go_at_call 97; refine (hDb _).mono ?_; rintro e w3 ⟨rfl, rfl⟩)))
          | fail
        all_goals
          clear p0 hch HP1 HY1 HPd hhb hh
          have HI0 : Hid (GI w A c l w2.heap.size 4 (.slice none 0 0) [] (w2.alloc (.cells #[.int .i64 4, .slice none 0 0] 28))) :=
            ⟨HP2.out.below ((Below.refl _ _).alloc (Nat.le_refl _) _), HY2.out.below ((Below.refl (w2.heap.size) _).alloc (Nat.le_refl _) _) hz2', GB.made _ _ _ _, OwnI.nil _ _ _ _, ⟨hz2', by simp⟩, by simp [Value.ownBlock]⟩
          go_wp2
          generalize w2.alloc (.cells #[.int .i64 4, .slice none 0 0] 28) = w5 at *
          generalize hqq : w2.heap.size = q at *
          clear hqq
          go_loopw [8] (fun i wr => ∃ (k : Nat) (A2 : Option Addr) (c2 : Nat), i = .int .i64 k ∧ k ≤ 16 ∧ GI w A c l q 4 (.slice A2 (getTo l 2 root k).length c2) (getTo l 2 root k) wr) (fun i _ => 16 - (intOf i).toNat)
          case atStart => exact ⟨0, none, 0, rfl, Nat.zero_le _, HI0.out⟩
          case round =>
            obtain ⟨k, A2, c2, rfl, hkN, hgi⟩ := hrel
            have HI := Lib.hid hgi
            clear HI0 hgi
            have hkk : (k : Int) ≤ 16 := by omega
            have hle : (getTo l 2 root k).length ≤ 1000000 := by rw [getTo_len]; omega
            by_cases hlt : k < 16
            · have hT := hT0.out k hlt
              have HST : Hid (getTo l 2 root (k + 1) = getTo l 2 root k ++ [tileN l 2 root (k % 4) (k / 4)]) := rfl
              have ex : ((k % 4 : Nat) : Int) = (k : Int) % 4 := by omega
              have ey : ((k / 4 : Nat) : Int) = (k : Int) / 4 := by omega
              rw [ex, ey] at hT
              have ed : ((2 ^ 2 : Nat) : Int) = 4 := by decide
              rw [ed] at hT
              generalize tileN l 2 root (k % 4) (k / 4) = t at *
              have htm : (k : Int).tmod 4 = (k : Int) % 4 := Int.tmod_eq_emod_of_nonneg (by omega)
              have hdv : IntKind.i64.wrap ((k : Int) / 4) = (k : Int) / 4 := IntWalk.i64_in _ (by omega)
              have hltN : (k : Int) < 16 := by omega
              have HId := Lib.hid HI.out.drew
              have p0 := HI.out.pb.c0
              obtain ⟨m0, m1, _, mf1⟩ := HI.out.m
              clear ex ey ed hT0
              go_wp2_with fail
              refine wp_region_noPanic ?_
              refine wp_region_held_drew (S := (fun w' => w'.cell? ⟨w.heap.size, 0, none⟩ = some (.slice A l.length c))) (by kernel_rfl) p0 (fun hHeld => ?_)
              refine wpAnyH_take (i := 0) (v := ?_) rfl (by kernel_rfl) (by kernel_rfl) (by kernel_rfl) (fun _ _ _ h => h) (Or.inl ⟨by rfl, ?_⟩) (by assumption) ?_
              rotate_left 1
              · (intro w' hSw; (try dsimp only at hSw); go_simp <;> with_reducible rfl)
              simp only [Act.put, List.setIfInBounds_toArray, List.set_cons_zero, List.set_cons_succ]
              refine wpAnyH_take (i := 2) (v := ?_) rfl (by kernel_rfl) (by kernel_rfl) (by kernel_rfl) (fun _ _ _ h => h) (Or.inl ⟨by rfl, ?_⟩) (by assumption) ?_
              rotate_left 1
              · (intro w' hSw; (try dsimp only at hSw); go_simp <;> with_reducible rfl)
              simp only [Act.put, List.setIfInBounds_toArray, List.set_cons_zero, List.set_cons_succ]
              refine wpAnyH_take (i := 3) (v := ?_) rfl (by kernel_rfl) (by kernel_rfl) (by kernel_rfl) (fun _ _ _ h => h) (Or.inl ⟨by rfl, ?_⟩) (by assumption) ?_
              rotate_left 1
              · (intro w' hSw; (try dsimp only at hSw); go_simp <;> with_reducible rfl)
              simp only [Act.put, List.setIfInBounds_toArray, List.set_cons_zero, List.set_cons_succ]
              refine wpAnyH_take (i := 4) (v := ?_) rfl (by kernel_rfl) (by kernel_rfl) (by kernel_rfl) (fun _ _ _ h => h) (Or.inl ⟨by rfl, ?_⟩) (by assumption) ?_
              rotate_left 1
              · (intro w' hSw; (try dsimp only at hSw); go_simp <;> with_reducible rfl)
              simp only [Act.put, List.setIfInBounds_toArray, List.set_cons_zero, List.set_cons_succ]
              refine wpAnyH_take (i := 5) (v := ?_) rfl (by kernel_rfl) (by kernel_rfl) (by kernel_rfl) (fun _ _ _ h => h) (Or.inl ⟨by rfl, ?_⟩) (by assumption) ?_
              rotate_left 1
              · (intro w' hSw; (try dsimp only at hSw); go_simp <;> with_reducible rfl)
              simp only [Act.put, List.setIfInBounds_toArray, List.set_cons_zero, List.set_cons_succ]
              refine wpAnyH_take (i := 6) (v := ?_) rfl (by kernel_rfl) (by kernel_rfl) (by kernel_rfl) (fun _ _ _ h => h) (Or.inl ⟨by rfl, ?_⟩) (by assumption) ?_
              rotate_left 1
              · (intro w' hSw; (try dsimp only at hSw); go_simp <;> with_reducible rfl)
              simp only [Act.put, List.setIfInBounds_toArray, List.set_cons_zero, List.set_cons_succ]
              refine wpAnyH_take (i := 7) (v := ?_) rfl (by kernel_rfl) (by kernel_rfl) (by kernel_rfl) (fun _ _ _ h => h) (Or.inl ⟨by rfl, ?_⟩) (by assumption) ?_
              rotate_left 1
              · (intro w' hSw; (try dsimp only at hSw); go_simp <;> with_reducible rfl)
              simp only [Act.put, List.setIfInBounds_toArray, List.set_cons_zero, List.set_cons_succ]
              refine wpAnyH_take (i := 8) (v := ?_) rfl (by kernel_rfl) (by kernel_rfl) (by kernel_rfl) (fun _ _ _ h => h) (Or.inl ⟨by rfl, ?_⟩) (by assumption) ?_
              rotate_left 1
              · (intro w' hSw; (try dsimp only at hSw); go_simp <;> with_reducible rfl)
              simp only [Act.put, List.setIfInBounds_toArray, List.set_cons_zero, List.set_cons_succ]
              refine wpAnyH_take (i := 9) (v := ?_) rfl (by kernel_rfl) (by kernel_rfl) (by kernel_rfl) (fun _ _ _ h => h) (Or.inl ⟨by rfl, ?_⟩) (by assumption) ?_
              rotate_left 1
              · (intro w' hSw; (try dsimp only at hSw); go_simp <;> with_reducible rfl)
              simp only [Act.put, List.setIfInBounds_toArray, List.set_cons_zero, List.set_cons_succ]
              refine wpAnyH_take (i := 10) (v := ?_) rfl (by kernel_rfl) (by kernel_rfl) (by kernel_rfl) (fun _ _ _ h => h) (Or.inl ⟨by rfl, ?_⟩) (by assumption) ?_
              rotate_left 1
              · (intro w' hSw; (try dsimp only at hSw); go_simp <;> with_reducible rfl)
              simp only [Act.put, List.setIfInBounds_toArray, List.set_cons_zero, List.set_cons_succ]
              refine wpAnyH_ready (rs := [1, 11]) (by kernel_rfl) (by simp) ?_
              refine (AllReadyH.cons rfl (fun K hK => ?_) (AllReadyH.cons rfl (fun K hK => ?_) AllReadyH.nil))
              · skip
                go_simp
                refine hK.out _ _ ?_ (fun hHeld => ?_)
                · (first | (with_reducible exact hHeld) | (with_reducible exact hk7) | (with_reducible exact hk6) | exact hk5 | go_keep)
                clear hK K
                try simp only [Act.put, List.setIfInBounds_toArray, List.set_cons_zero, List.set_cons_succ]
                refine wpAnyH_ready (rs := [11]) (by kernel_rfl) (by simp) ?_
                refine (AllReadyH.cons rfl (fun K hK => ?_) AllReadyH.nil)
                go_simp
                (go_at_call 98; refine (hT _ HId.out.pb.rn).mono ?_; rintro e w6 ⟨rfl, hb6⟩; have HI6 := Lib.hid (HId.out.below hb6); clear hb6; have HI6A := Lib.hid (HI6.out.below ((Below.refl _ _).alloc (Nat.le_refl _) (.cells #[.int .i64 t] 2))); have hq6 : q ≤ (w6.alloc (.cells #[.int .i64 t] 2)).heap.size := Nat.le_of_lt HI6A.out.siz.2; have n1 := HI6.out.m.c1; have hqz6 : q < w6.heap.size := HI6.out.siz.2; have hk5 := HI6.out.pb.c0; have hwz6 : w.heap.size < w6.heap.size := HI6.out.pb.siz; have hlow : ∀ b, Value.ownBlock (.slice A2 (getTo l 2 root k).length c2) = some b → b ≠ w.heap.size := fun b hb => by (have h1 := (World.ownsRow.lt HI6.out.own b hb).1; have h2 := HI6.out.siz.1; omega))
                try go_wp2_with fail
                refine hK.out _ _ ?_ (fun hHeld => ?_)
                · (first | (with_reducible exact hHeld) | (with_reducible exact hk7) | (with_reducible exact hk6) | exact hk5 | go_keep)
                clear hK K
                try simp only [Act.put, List.setIfInBounds_toArray, List.set_cons_zero, List.set_cons_succ]
                refine wpAnyH_ready (rs := [12]) (by kernel_rfl) (by simp) ?_
                refine (AllReadyH.cons rfl (fun K hK => ?_) AllReadyH.nil)
                go_simp
                refine hK.out _ _ ?_ (fun hHeld => ?_)
                · (first | (with_reducible exact hHeld) | (with_reducible exact hk7) | (with_reducible exact hk6) | exact hk5 | go_keep)
                clear hK K
                try simp only [Act.put, List.setIfInBounds_toArray, List.set_cons_zero, List.set_cons_succ]
                refine wpAnyH_ready (rs := [13]) (by kernel_rfl) (by simp) ?_
                refine (AllReadyH.cons rfl (fun K hK => ?_) AllReadyH.nil)
                refine step_append_ints_l Tryd.underlying26 hi hz0 hz1 hz2 (by decide) (by rfl) _ _ (by rfl) q _ (getTo l 2 root k) t _ w6.heap.size HI6A.out.own (by simp [Act.eval]) (by simp [Act.eval]) (by simp [go_sem]) hle hq6 ?_; intro gN cap w7 hown7 hg7 hlies; have HI7 := Lib.hid (HI6A.out.push hown7 hg7 hlies); have cq := hg7.cell HI6A.out.m.c1 (fun e => HI6A.out.ap e.symm); have fq := (World.frozen?_of_block (a := ⟨q, 1, none⟩) (hg7.block q HI6A.out.siz.2 (fun e => HI6A.out.ap e.symm))).trans HI6A.out.m.f1; have hk7 := hg7.cell HI6A.out.pb.c0 (fun e => hlow _ e.symm rfl); have hk6 := HI7.out.pb.c0
                refine hK.out _ _ ?_ (fun hHeld => ?_)
                · (first | (with_reducible exact hHeld) | (with_reducible exact hk7) | (with_reducible exact hk6) | exact hk5 | go_keep)
                clear hK K
                try simp only [Act.put, List.setIfInBounds_toArray, List.set_cons_zero, List.set_cons_succ]
                refine wpAnyH_take (i := 14) (v := ?_) rfl (by kernel_rfl) (by kernel_rfl) (by kernel_rfl) (fun _ _ _ h => h) (Or.inl ⟨by rfl, ?_⟩) (by assumption) ?_
                rotate_left 1
                · (intro w' hSw; (try dsimp only at hSw); go_simp <;> with_reducible rfl)
                simp only [Act.put, List.setIfInBounds_toArray, List.set_cons_zero, List.set_cons_succ]
                refine wpAnyH_ready (rs := [15]) (by kernel_rfl) (by simp) ?_
                refine (AllReadyH.cons rfl (fun K hK => ?_) AllReadyH.nil)
                go_simp
                refine hK.out _ _ ?_ (fun hHeld => ?_)
                · (first | (with_reducible exact hHeld) | (with_reducible exact hk7) | (with_reducible exact hk6) | exact hk5 | go_keep)
                clear hK K
                try simp only [Act.put, List.setIfInBounds_toArray, List.set_cons_zero, List.set_cons_succ]
                refine wpAnyH_done (by kernel_rfl) ?_ _
                refine NoPanic.normal ?_
                clear hown7 hg7 hlies hk7 hk6 hk5 p0 m0 m1 mf1 n1 cq fq HI6A HI6 HId
                go_wp2
                go_roundw
                case rel => exact ⟨k + 1, some ⟨gN, 0, none⟩, cap, by go_num, by omega, by rw [HST.out, List.length_append]; exact HI7.out⟩
                case measure => simp [intOf] <;> omega
              · skip
                go_simp
                (go_at_call 98; refine (hT _ HId.out.pb.rn).mono ?_; rintro e w6 ⟨rfl, hb6⟩; have HI6 := Lib.hid (HId.out.below hb6); clear hb6; have HI6A := Lib.hid (HI6.out.below ((Below.refl _ _).alloc (Nat.le_refl _) (.cells #[.int .i64 t] 2))); have hq6 : q ≤ (w6.alloc (.cells #[.int .i64 t] 2)).heap.size := Nat.le_of_lt HI6A.out.siz.2; have n1 := HI6.out.m.c1; have hqz6 : q < w6.heap.size := HI6.out.siz.2; have hk5 := HI6.out.pb.c0; have hwz6 : w.heap.size < w6.heap.size := HI6.out.pb.siz; have hlow : ∀ b, Value.ownBlock (.slice A2 (getTo l 2 root k).length c2) = some b → b ≠ w.heap.size := fun b hb => by (have h1 := (World.ownsRow.lt HI6.out.own b hb).1; have h2 := HI6.out.siz.1; omega))
                try go_wp2_with fail
                refine hK.out _ _ ?_ (fun hHeld => ?_)
                · (first | (with_reducible exact hHeld) | (with_reducible exact hk7) | (with_reducible exact hk6) | exact hk5 | go_keep)
                clear hK K
                try simp only [Act.put, List.setIfInBounds_toArray, List.set_cons_zero, List.set_cons_succ]
                refine wpAnyH_ready (rs := [1, 12]) (by kernel_rfl) (by simp) ?_
                refine (AllReadyH.cons rfl (fun K hK => ?_) (AllReadyH.cons rfl (fun K hK => ?_) AllReadyH.nil))
                · skip
                  go_simp
                  refine hK.out _ _ ?_ (fun hHeld => ?_)
                  · (first | (with_reducible exact hHeld) | (with_reducible exact hk7) | (with_reducible exact hk6) | exact hk5 | go_keep)
                  clear hK K
                  try simp only [Act.put, List.setIfInBounds_toArray, List.set_cons_zero, List.set_cons_succ]
                  refine wpAnyH_ready (rs := [12]) (by kernel_rfl) (by simp) ?_
                  refine (AllReadyH.cons rfl (fun K hK => ?_) AllReadyH.nil)
                  go_simp
                  refine hK.out _ _ ?_ (fun hHeld => ?_)
                  · (first | (with_reducible exact hHeld) | (with_reducible exact hk7) | (with_reducible exact hk6) | exact hk5 | go_keep)
                  clear hK K
                  try simp only [Act.put, List.setIfInBounds_toArray, List.set_cons_zero, List.set_cons_succ]
                  refine wpAnyH_ready (rs := [13]) (by kernel_rfl) (by simp) ?_
                  refine (AllReadyH.cons rfl (fun K hK => ?_) AllReadyH.nil)
                  refine step_append_ints_l Tryd.underlying26 hi hz0 hz1 hz2 (by decide) (by rfl) _ _ (by rfl) q _ (getTo l 2 root k) t _ w6.heap.size HI6A.out.own (by simp [Act.eval]) (by simp [Act.eval]) (by simp [go_sem]) hle hq6 ?_; intro gN cap w7 hown7 hg7 hlies; have HI7 := Lib.hid (HI6A.out.push hown7 hg7 hlies); have cq := hg7.cell HI6A.out.m.c1 (fun e => HI6A.out.ap e.symm); have fq := (World.frozen?_of_block (a := ⟨q, 1, none⟩) (hg7.block q HI6A.out.siz.2 (fun e => HI6A.out.ap e.symm))).trans HI6A.out.m.f1; have hk7 := hg7.cell HI6A.out.pb.c0 (fun e => hlow _ e.symm rfl); have hk6 := HI7.out.pb.c0
                  refine hK.out _ _ ?_ (fun hHeld => ?_)
                  · (first | (with_reducible exact hHeld) | (with_reducible exact hk7) | (with_reducible exact hk6) | exact hk5 | go_keep)
                  clear hK K
                  try simp only [Act.put, List.setIfInBounds_toArray, List.set_cons_zero, List.set_cons_succ]
                  refine wpAnyH_take (i := 14) (v := ?_) rfl (by kernel_rfl) (by kernel_rfl) (by kernel_rfl) (fun _ _ _ h => h) (Or.inl ⟨by rfl, ?_⟩) (by assumption) ?_
                  rotate_left 1
                  · (intro w' hSw; (try dsimp only at hSw); go_simp <;> with_reducible rfl)
                  simp only [Act.put, List.setIfInBounds_toArray, List.set_cons_zero, List.set_cons_succ]
                  refine wpAnyH_ready (rs := [15]) (by kernel_rfl) (by simp) ?_
                  refine (AllReadyH.cons rfl (fun K hK => ?_) AllReadyH.nil)
                  go_simp
                  refine hK.out _ _ ?_ (fun hHeld => ?_)
                  · (first | (with_reducible exact hHeld) | (with_reducible exact hk7) | (with_reducible exact hk6) | exact hk5 | go_keep)
                  clear hK K
                  try simp only [Act.put, List.setIfInBounds_toArray, List.set_cons_zero, List.set_cons_succ]
                  refine wpAnyH_done (by kernel_rfl) ?_ _
                  refine NoPanic.normal ?_
                  clear hown7 hg7 hlies hk7 hk6 hk5 p0 m0 m1 mf1 n1 cq fq HI6A HI6 HId
                  go_wp2
                  go_roundw
                  case rel => exact ⟨k + 1, some ⟨gN, 0, none⟩, cap, by go_num, by omega, by rw [HST.out, List.length_append]; exact HI7.out⟩
                  case measure => simp [intOf] <;> omega
                · skip
                  go_simp
                  refine hK.out _ _ ?_ (fun hHeld => ?_)
                  · (first | (with_reducible exact hHeld) | (with_reducible exact hk7) | (with_reducible exact hk6) | exact hk5 | go_keep)
                  clear hK K
                  try simp only [Act.put, List.setIfInBounds_toArray, List.set_cons_zero, List.set_cons_succ]
                  refine wpAnyH_ready (rs := [1]) (by kernel_rfl) (by simp) ?_
                  refine (AllReadyH.cons rfl (fun K hK => ?_) AllReadyH.nil)
                  go_simp
                  refine hK.out _ _ ?_ (fun hHeld => ?_)
                  · (first | (with_reducible exact hHeld) | (with_reducible exact hk7) | (with_reducible exact hk6) | exact hk5 | go_keep)
                  clear hK K
                  try simp only [Act.put, List.setIfInBounds_toArray, List.set_cons_zero, List.set_cons_succ]
                  refine wpAnyH_ready (rs := [13]) (by kernel_rfl) (by simp) ?_
                  refine (AllReadyH.cons rfl (fun K hK => ?_) AllReadyH.nil)
                  refine step_append_ints_l Tryd.underlying26 hi hz0 hz1 hz2 (by decide) (by rfl) _ _ (by rfl) q _ (getTo l 2 root k) t _ w6.heap.size HI6A.out.own (by simp [Act.eval]) (by simp [Act.eval]) (by simp [go_sem]) hle hq6 ?_; intro gN cap w7 hown7 hg7 hlies; have HI7 := Lib.hid (HI6A.out.push hown7 hg7 hlies); have cq := hg7.cell HI6A.out.m.c1 (fun e => HI6A.out.ap e.symm); have fq := (World.frozen?_of_block (a := ⟨q, 1, none⟩) (hg7.block q HI6A.out.siz.2 (fun e => HI6A.out.ap e.symm))).trans HI6A.out.m.f1; have hk7 := hg7.cell HI6A.out.pb.c0 (fun e => hlow _ e.symm rfl); have hk6 := HI7.out.pb.c0
                  refine hK.out _ _ ?_ (fun hHeld => ?_)
                  · (first | (with_reducible exact hHeld) | (with_reducible exact hk7) | (with_reducible exact hk6) | exact hk5 | go_keep)
                  clear hK K
                  try simp only [Act.put, List.setIfInBounds_toArray, List.set_cons_zero, List.set_cons_succ]
                  refine wpAnyH_take (i := 14) (v := ?_) rfl (by kernel_rfl) (by kernel_rfl) (by kernel_rfl) (fun _ _ _ h => h) (Or.inl ⟨by rfl, ?_⟩) (by assumption) ?_
                  rotate_left 1
                  · (intro w' hSw; (try dsimp only at hSw); go_simp <;> with_reducible rfl)
                  simp only [Act.put, List.setIfInBounds_toArray, List.set_cons_zero, List.set_cons_succ]
                  refine wpAnyH_ready (rs := [15]) (by kernel_rfl) (by simp) ?_
                  refine (AllReadyH.cons rfl (fun K hK => ?_) AllReadyH.nil)
                  go_simp
                  refine hK.out _ _ ?_ (fun hHeld => ?_)
                  · (first | (with_reducible exact hHeld) | (with_reducible exact hk7) | (with_reducible exact hk6) | exact hk5 | go_keep)
                  clear hK K
                  try simp only [Act.put, List.setIfInBounds_toArray, List.set_cons_zero, List.set_cons_succ]
                  refine wpAnyH_done (by kernel_rfl) ?_ _
                  refine NoPanic.normal ?_
                  clear hown7 hg7 hlies hk7 hk6 hk5 p0 m0 m1 mf1 n1 cq fq HI6A HI6 HId
                  go_wp2
                  go_roundw
                  case rel => exact ⟨k + 1, some ⟨gN, 0, none⟩, cap, by go_num, by omega, by rw [HST.out, List.length_append]; exact HI7.out⟩
                  case measure => simp [intOf] <;> omega
            · obtain rfl : k = 16 := by omega
              obtain ⟨m0, m1, _, mf1⟩ := HI.out.m
              obtain ⟨c0, c1, c2', f0, f1, f2⟩ := HI.out.res
              obtain ⟨z1, z2⟩ := HI.out.siz
              go_wp2
              refine bodyPost_ret (v := .agg #[.int .i64 4, .slice A2 (getTo l 2 root 16).length c2, .int .i64 0]) (by simp [results, Tryd.results60, go_sem, c0, c1, c2']) rfl ?_
              rw [HE.out]
              refine ⟨A2, c2, rfl, ?_, ((HI.out.pb.bel.setCell (by simp) _).setCell (by simp) _).setCell (by simp) _⟩
              exact OwnI.lower (base := q) (by omega) (OwnI.set_below (by show w.heap.size + 1 < _; omega) _ (OwnI.set_below (by show w.heap.size + 1 < _; omega) _ (OwnI.set_below (by show w.heap.size + 1 < _; omega) _ HI.out.own)))
      · have HE : Hid (getG l root 4 = (8, 0, [])) := by
          show _ = _
          rw [getG, HTH.out, if_pos rfl, if_neg (by show ¬ (hts l).getD root 0 ≤ _; rw [HGT.out]; exact hh)]
        have hhb : decide ((2 : Int) < (hts l)[root]) = true := decide_eq_true (by omega)
        generalize heq : (hts l)[root] = hv at *
        have HEQ := Lib.hid heq
        clear heq
        go_enter Tryd.func60, Tryd.ntmps60
        go_wp2_with fail
        refine (hTh _).mono ?_
        rintro e w1 ⟨rfl, hb1⟩
        have HP1 := Lib.hid (HP0.out.below hb1)
        have HY1 := Lib.hid (HY0.out.below hb1 (by simp))
        have hz1' : w.heap.size + 1 < w1.heap.size := by have := hb1.size; simp at this; omega
        clear hb1 HP0 HY0
        have p0 := HP1.out.c0
        have HPd := Lib.hid (HP1.out.below (Below.refl _ _).drew)
        have hri : (root : Int) < (l.length : Int) := by omega
        go_wp2_with fail
        first
          | (go_region_with (first
              | (go_at_call 68; refine (hHs _ HPd.out.rn).mono ?_; rintro e w2 ⟨A', c', rfl, ho2, hb2⟩; have HP2 := Lib.hid (HPd.out.below hb2); have HY2 := Lib.hid (HY1.out.below ((Below.refl w1.heap.size w1).drew.trans hb2) hz1'); have hz2' : w.heap.size + 1 < w2.heap.size := Nat.lt_of_lt_of_le hz1' hb2.size; obtain ⟨gh, rfl, _, _, hch, _⟩ := ho2.at_ (j := root) hkh; rw [HEQ.out] at hch; clear ho2 hb2)
              | (go_at_call 97; refine (hDb _).mono ?_; rintro e w3 ⟨rfl, rfl⟩)))
          | fail
        all_goals
          clear p0 hch HP1 HY1 HPd
          go_wp2_with fail
          refine (mIll_any 8 _).mono ?_
          rintro e w4 ⟨rfl, hb4⟩
          have HP4 := Lib.hid (HP2.out.below hb4)
          obtain ⟨c0, c1, c2, f0, f1, f2⟩ := HY2.out.below hb4 hz2'
          clear hb4
          go_wp2
          refine bodyPost_ret (v := .agg #[.int .i64 0, .slice none 0 0, .int .i64 8]) (by simp [results, Tryd.results60, go_sem, c0, c1, c2]) rfl ?_
          rw [HE.out]
          exact ⟨none, 0, rfl, OwnI.nil _ _ _ _, ((HP4.out.bel.setCell (by simp) _).setCell (by simp) _).setCell (by simp) _⟩
    · have hDb : ∀ w, Calls Tryd.prog 97 #[.int .i64 8] w fun e w' => e = .returned (.int .i64 3) ∧ w = w' := fun w => mDoublings_any 3 (by decide) w
      by_cases hh : (hts l)[root] ≤ 3
      · have HE : Hid (getG l root 8 = (0, 8, getTo l 3 root 64)) := by
          show _ = _
          rw [getG, HTH.out, if_pos rfl, if_pos (by show (hts l).getD root 0 ≤ _; rw [HGT.out]; exact hh)]
          rfl
        have hT0 := Lib.hid (fun k (hk' : k < 64) w h => mTileOf_any A c l w h HR.out 3 root (k % 8) (k / 8) (by decide) hk (by rw [HGT.out]; exact hh) (by show k % 8 < 8; omega) (by show k / 8 < 8; omega))
        have hhb : decide ((3 : Int) < (hts l)[root]) = false := decide_eq_false (by omega)
        generalize heq : (hts l)[root] = hv at *
        have HEQ := Lib.hid heq
        clear heq
        go_enter Tryd.func60, Tryd.ntmps60
        go_wp2_with fail
        refine (hTh _).mono ?_
        rintro e w1 ⟨rfl, hb1⟩
        have HP1 := Lib.hid (HP0.out.below hb1)
        have HY1 := Lib.hid (HY0.out.below hb1 (by simp))
        have hz1' : w.heap.size + 1 < w1.heap.size := by have := hb1.size; simp at this; omega
        clear hb1 HP0 HY0
        have p0 := HP1.out.c0
        have HPd := Lib.hid (HP1.out.below (Below.refl _ _).drew)
        have hri : (root : Int) < (l.length : Int) := by omega
        go_wp2_with fail
        first
          | (go_region_with (first
              | (go_at_call 68; refine (hHs _ HPd.out.rn).mono ?_; rintro e w2 ⟨A', c', rfl, ho2, hb2⟩; have HP2 := Lib.hid (HPd.out.below hb2); have HY2 := Lib.hid (HY1.out.below ((Below.refl w1.heap.size w1).drew.trans hb2) hz1'); have hz2' : w.heap.size + 1 < w2.heap.size := Nat.lt_of_lt_of_le hz1' hb2.size; obtain ⟨gh, rfl, _, _, hch, _⟩ := ho2.at_ (j := root) hkh; rw [HEQ.out] at hch; clear ho2 hb2)
              | (go_at_call 97; refine (hDb _).mono ?_; rintro e w3 ⟨rfl, rfl⟩)))
          | fail
        all_goals
          clear p0 hch HP1 HY1 HPd hhb hh
          have HI0 : Hid (GI w A c l w2.heap.size 8 (.slice none 0 0) [] (w2.alloc (.cells #[.int .i64 8, .slice none 0 0] 28))) :=
            ⟨HP2.out.below ((Below.refl _ _).alloc (Nat.le_refl _) _), HY2.out.below ((Below.refl (w2.heap.size) _).alloc (Nat.le_refl _) _) hz2', GB.made _ _ _ _, OwnI.nil _ _ _ _, ⟨hz2', by simp⟩, by simp [Value.ownBlock]⟩
          go_wp2
          generalize w2.alloc (.cells #[.int .i64 8, .slice none 0 0] 28) = w5 at *
          generalize hqq : w2.heap.size = q at *
          clear hqq
          go_loopw [8] (fun i wr => ∃ (k : Nat) (A2 : Option Addr) (c2 : Nat), i = .int .i64 k ∧ k ≤ 64 ∧ GI w A c l q 8 (.slice A2 (getTo l 3 root k).length c2) (getTo l 3 root k) wr) (fun i _ => 64 - (intOf i).toNat)
          case atStart => exact ⟨0, none, 0, rfl, Nat.zero_le _, HI0.out⟩
          case round =>
            obtain ⟨k, A2, c2, rfl, hkN, hgi⟩ := hrel
            have HI := Lib.hid hgi
            clear HI0 hgi
            have hkk : (k : Int) ≤ 64 := by omega
            have hle : (getTo l 3 root k).length ≤ 1000000 := by rw [getTo_len]; omega
            by_cases hlt : k < 64
            · have hT := hT0.out k hlt
              have HST : Hid (getTo l 3 root (k + 1) = getTo l 3 root k ++ [tileN l 3 root (k % 8) (k / 8)]) := rfl
              have ex : ((k % 8 : Nat) : Int) = (k : Int) % 8 := by omega
              have ey : ((k / 8 : Nat) : Int) = (k : Int) / 8 := by omega
              rw [ex, ey] at hT
              have ed : ((2 ^ 3 : Nat) : Int) = 8 := by decide
              rw [ed] at hT
              generalize tileN l 3 root (k % 8) (k / 8) = t at *
              have htm : (k : Int).tmod 8 = (k : Int) % 8 := Int.tmod_eq_emod_of_nonneg (by omega)
              have hdv : IntKind.i64.wrap ((k : Int) / 8) = (k : Int) / 8 := IntWalk.i64_in _ (by omega)
              have hltN : (k : Int) < 64 := by omega
              have HId := Lib.hid HI.out.drew
              have p0 := HI.out.pb.c0
              obtain ⟨m0, m1, _, mf1⟩ := HI.out.m
              clear ex ey ed hT0
              go_wp2_with fail
              refine wp_region_noPanic ?_
              refine wp_region_held_drew (S := (fun w' => w'.cell? ⟨w.heap.size, 0, none⟩ = some (.slice A l.length c))) (by kernel_rfl) p0 (fun hHeld => ?_)
              refine wpAnyH_take (i := 0) (v := ?_) rfl (by kernel_rfl) (by kernel_rfl) (by kernel_rfl) (fun _ _ _ h => h) (Or.inl ⟨by rfl, ?_⟩) (by assumption) ?_
              rotate_left 1
              · (intro w' hSw; (try dsimp only at hSw); go_simp <;> with_reducible rfl)
              simp only [Act.put, List.setIfInBounds_toArray, List.set_cons_zero, List.set_cons_succ]
              refine wpAnyH_take (i := 2) (v := ?_) rfl (by kernel_rfl) (by kernel_rfl) (by kernel_rfl) (fun _ _ _ h => h) (Or.inl ⟨by rfl, ?_⟩) (by assumption) ?_
              rotate_left 1
              · (intro w' hSw; (try dsimp only at hSw); go_simp <;> with_reducible rfl)
              simp only [Act.put, List.setIfInBounds_toArray, List.set_cons_zero, List.set_cons_succ]
              refine wpAnyH_take (i := 3) (v := ?_) rfl (by kernel_rfl) (by kernel_rfl) (by kernel_rfl) (fun _ _ _ h => h) (Or.inl ⟨by rfl, ?_⟩) (by assumption) ?_
              rotate_left 1
              · (intro w' hSw; (try dsimp only at hSw); go_simp <;> with_reducible rfl)
              simp only [Act.put, List.setIfInBounds_toArray, List.set_cons_zero, List.set_cons_succ]
              refine wpAnyH_take (i := 4) (v := ?_) rfl (by kernel_rfl) (by kernel_rfl) (by kernel_rfl) (fun _ _ _ h => h) (Or.inl ⟨by rfl, ?_⟩) (by assumption) ?_
              rotate_left 1
              · (intro w' hSw; (try dsimp only at hSw); go_simp <;> with_reducible rfl)
              simp only [Act.put, List.setIfInBounds_toArray, List.set_cons_zero, List.set_cons_succ]
              refine wpAnyH_take (i := 5) (v := ?_) rfl (by kernel_rfl) (by kernel_rfl) (by kernel_rfl) (fun _ _ _ h => h) (Or.inl ⟨by rfl, ?_⟩) (by assumption) ?_
              rotate_left 1
              · (intro w' hSw; (try dsimp only at hSw); go_simp <;> with_reducible rfl)
              simp only [Act.put, List.setIfInBounds_toArray, List.set_cons_zero, List.set_cons_succ]
              refine wpAnyH_take (i := 6) (v := ?_) rfl (by kernel_rfl) (by kernel_rfl) (by kernel_rfl) (fun _ _ _ h => h) (Or.inl ⟨by rfl, ?_⟩) (by assumption) ?_
              rotate_left 1
              · (intro w' hSw; (try dsimp only at hSw); go_simp <;> with_reducible rfl)
              simp only [Act.put, List.setIfInBounds_toArray, List.set_cons_zero, List.set_cons_succ]
              refine wpAnyH_take (i := 7) (v := ?_) rfl (by kernel_rfl) (by kernel_rfl) (by kernel_rfl) (fun _ _ _ h => h) (Or.inl ⟨by rfl, ?_⟩) (by assumption) ?_
              rotate_left 1
              · (intro w' hSw; (try dsimp only at hSw); go_simp <;> with_reducible rfl)
              simp only [Act.put, List.setIfInBounds_toArray, List.set_cons_zero, List.set_cons_succ]
              refine wpAnyH_take (i := 8) (v := ?_) rfl (by kernel_rfl) (by kernel_rfl) (by kernel_rfl) (fun _ _ _ h => h) (Or.inl ⟨by rfl, ?_⟩) (by assumption) ?_
              rotate_left 1
              · (intro w' hSw; (try dsimp only at hSw); go_simp <;> with_reducible rfl)
              simp only [Act.put, List.setIfInBounds_toArray, List.set_cons_zero, List.set_cons_succ]
              refine wpAnyH_take (i := 9) (v := ?_) rfl (by kernel_rfl) (by kernel_rfl) (by kernel_rfl) (fun _ _ _ h => h) (Or.inl ⟨by rfl, ?_⟩) (by assumption) ?_
              rotate_left 1
              · (intro w' hSw; (try dsimp only at hSw); go_simp <;> with_reducible rfl)
              simp only [Act.put, List.setIfInBounds_toArray, List.set_cons_zero, List.set_cons_succ]
              refine wpAnyH_take (i := 10) (v := ?_) rfl (by kernel_rfl) (by kernel_rfl) (by kernel_rfl) (fun _ _ _ h => h) (Or.inl ⟨by rfl, ?_⟩) (by assumption) ?_
              rotate_left 1
              · (intro w' hSw; (try dsimp only at hSw); go_simp <;> with_reducible rfl)
              simp only [Act.put, List.setIfInBounds_toArray, List.set_cons_zero, List.set_cons_succ]
              refine wpAnyH_ready (rs := [1, 11]) (by kernel_rfl) (by simp) ?_
              refine (AllReadyH.cons rfl (fun K hK => ?_) (AllReadyH.cons rfl (fun K hK => ?_) AllReadyH.nil))
              · skip
                go_simp
                refine hK.out _ _ ?_ (fun hHeld => ?_)
                · (first | (with_reducible exact hHeld) | (with_reducible exact hk7) | (with_reducible exact hk6) | exact hk5 | go_keep)
                clear hK K
                try simp only [Act.put, List.setIfInBounds_toArray, List.set_cons_zero, List.set_cons_succ]
                refine wpAnyH_ready (rs := [11]) (by kernel_rfl) (by simp) ?_
                refine (AllReadyH.cons rfl (fun K hK => ?_) AllReadyH.nil)
                go_simp
                (go_at_call 98; refine (hT _ HId.out.pb.rn).mono ?_; rintro e w6 ⟨rfl, hb6⟩; have HI6 := Lib.hid (HId.out.below hb6); clear hb6; have HI6A := Lib.hid (HI6.out.below ((Below.refl _ _).alloc (Nat.le_refl _) (.cells #[.int .i64 t] 2))); have hq6 : q ≤ (w6.alloc (.cells #[.int .i64 t] 2)).heap.size := Nat.le_of_lt HI6A.out.siz.2; have n1 := HI6.out.m.c1; have hqz6 : q < w6.heap.size := HI6.out.siz.2; have hk5 := HI6.out.pb.c0; have hwz6 : w.heap.size < w6.heap.size := HI6.out.pb.siz; have hlow : ∀ b, Value.ownBlock (.slice A2 (getTo l 3 root k).length c2) = some b → b ≠ w.heap.size := fun b hb => by (have h1 := (World.ownsRow.lt HI6.out.own b hb).1; have h2 := HI6.out.siz.1; omega))
                try go_wp2_with fail
                refine hK.out _ _ ?_ (fun hHeld => ?_)
                · (first | (with_reducible exact hHeld) | (with_reducible exact hk7) | (with_reducible exact hk6) | exact hk5 | go_keep)
                clear hK K
                try simp only [Act.put, List.setIfInBounds_toArray, List.set_cons_zero, List.set_cons_succ]
                refine wpAnyH_ready (rs := [12]) (by kernel_rfl) (by simp) ?_
                refine (AllReadyH.cons rfl (fun K hK => ?_) AllReadyH.nil)
                go_simp
                refine hK.out _ _ ?_ (fun hHeld => ?_)
                · (first | (with_reducible exact hHeld) | (with_reducible exact hk7) | (with_reducible exact hk6) | exact hk5 | go_keep)
                clear hK K
                try simp only [Act.put, List.setIfInBounds_toArray, List.set_cons_zero, List.set_cons_succ]
                refine wpAnyH_ready (rs := [13]) (by kernel_rfl) (by simp) ?_
                refine (AllReadyH.cons rfl (fun K hK => ?_) AllReadyH.nil)
                refine step_append_ints_l Tryd.underlying26 hi hz0 hz1 hz2 (by decide) (by rfl) _ _ (by rfl) q _ (getTo l 3 root k) t _ w6.heap.size HI6A.out.own (by simp [Act.eval]) (by simp [Act.eval]) (by simp [go_sem]) hle hq6 ?_; intro gN cap w7 hown7 hg7 hlies; have HI7 := Lib.hid (HI6A.out.push hown7 hg7 hlies); have cq := hg7.cell HI6A.out.m.c1 (fun e => HI6A.out.ap e.symm); have fq := (World.frozen?_of_block (a := ⟨q, 1, none⟩) (hg7.block q HI6A.out.siz.2 (fun e => HI6A.out.ap e.symm))).trans HI6A.out.m.f1; have hk7 := hg7.cell HI6A.out.pb.c0 (fun e => hlow _ e.symm rfl); have hk6 := HI7.out.pb.c0
                refine hK.out _ _ ?_ (fun hHeld => ?_)
                · (first | (with_reducible exact hHeld) | (with_reducible exact hk7) | (with_reducible exact hk6) | exact hk5 | go_keep)
                clear hK K
                try simp only [Act.put, List.setIfInBounds_toArray, List.set_cons_zero, List.set_cons_succ]
                refine wpAnyH_take (i := 14) (v := ?_) rfl (by kernel_rfl) (by kernel_rfl) (by kernel_rfl) (fun _ _ _ h => h) (Or.inl ⟨by rfl, ?_⟩) (by assumption) ?_
                rotate_left 1
                · (intro w' hSw; (try dsimp only at hSw); go_simp <;> with_reducible rfl)
                simp only [Act.put, List.setIfInBounds_toArray, List.set_cons_zero, List.set_cons_succ]
                refine wpAnyH_ready (rs := [15]) (by kernel_rfl) (by simp) ?_
                refine (AllReadyH.cons rfl (fun K hK => ?_) AllReadyH.nil)
                go_simp
                refine hK.out _ _ ?_ (fun hHeld => ?_)
                · (first | (with_reducible exact hHeld) | (with_reducible exact hk7) | (with_reducible exact hk6) | exact hk5 | go_keep)
                clear hK K
                try simp only [Act.put, List.setIfInBounds_toArray, List.set_cons_zero, List.set_cons_succ]
                refine wpAnyH_done (by kernel_rfl) ?_ _
                refine NoPanic.normal ?_
                clear hown7 hg7 hlies hk7 hk6 hk5 p0 m0 m1 mf1 n1 cq fq HI6A HI6 HId
                go_wp2
                go_roundw
                case rel => exact ⟨k + 1, some ⟨gN, 0, none⟩, cap, by go_num, by omega, by rw [HST.out, List.length_append]; exact HI7.out⟩
                case measure => simp [intOf] <;> omega
              · skip
                go_simp
                (go_at_call 98; refine (hT _ HId.out.pb.rn).mono ?_; rintro e w6 ⟨rfl, hb6⟩; have HI6 := Lib.hid (HId.out.below hb6); clear hb6; have HI6A := Lib.hid (HI6.out.below ((Below.refl _ _).alloc (Nat.le_refl _) (.cells #[.int .i64 t] 2))); have hq6 : q ≤ (w6.alloc (.cells #[.int .i64 t] 2)).heap.size := Nat.le_of_lt HI6A.out.siz.2; have n1 := HI6.out.m.c1; have hqz6 : q < w6.heap.size := HI6.out.siz.2; have hk5 := HI6.out.pb.c0; have hwz6 : w.heap.size < w6.heap.size := HI6.out.pb.siz; have hlow : ∀ b, Value.ownBlock (.slice A2 (getTo l 3 root k).length c2) = some b → b ≠ w.heap.size := fun b hb => by (have h1 := (World.ownsRow.lt HI6.out.own b hb).1; have h2 := HI6.out.siz.1; omega))
                try go_wp2_with fail
                refine hK.out _ _ ?_ (fun hHeld => ?_)
                · (first | (with_reducible exact hHeld) | (with_reducible exact hk7) | (with_reducible exact hk6) | exact hk5 | go_keep)
                clear hK K
                try simp only [Act.put, List.setIfInBounds_toArray, List.set_cons_zero, List.set_cons_succ]
                refine wpAnyH_ready (rs := [1, 12]) (by kernel_rfl) (by simp) ?_
                refine (AllReadyH.cons rfl (fun K hK => ?_) (AllReadyH.cons rfl (fun K hK => ?_) AllReadyH.nil))
                · skip
                  go_simp
                  refine hK.out _ _ ?_ (fun hHeld => ?_)
                  · (first | (with_reducible exact hHeld) | (with_reducible exact hk7) | (with_reducible exact hk6) | exact hk5 | go_keep)
                  clear hK K
                  try simp only [Act.put, List.setIfInBounds_toArray, List.set_cons_zero, List.set_cons_succ]
                  refine wpAnyH_ready (rs := [12]) (by kernel_rfl) (by simp) ?_
                  refine (AllReadyH.cons rfl (fun K hK => ?_) AllReadyH.nil)
                  go_simp
                  refine hK.out _ _ ?_ (fun hHeld => ?_)
                  · (first | (with_reducible exact hHeld) | (with_reducible exact hk7) | (with_reducible exact hk6) | exact hk5 | go_keep)
                  clear hK K
                  try simp only [Act.put, List.setIfInBounds_toArray, List.set_cons_zero, List.set_cons_succ]
                  refine wpAnyH_ready (rs := [13]) (by kernel_rfl) (by simp) ?_
                  refine (AllReadyH.cons rfl (fun K hK => ?_) AllReadyH.nil)
                  refine step_append_ints_l Tryd.underlying26 hi hz0 hz1 hz2 (by decide) (by rfl) _ _ (by rfl) q _ (getTo l 3 root k) t _ w6.heap.size HI6A.out.own (by simp [Act.eval]) (by simp [Act.eval]) (by simp [go_sem]) hle hq6 ?_; intro gN cap w7 hown7 hg7 hlies; have HI7 := Lib.hid (HI6A.out.push hown7 hg7 hlies); have cq := hg7.cell HI6A.out.m.c1 (fun e => HI6A.out.ap e.symm); have fq := (World.frozen?_of_block (a := ⟨q, 1, none⟩) (hg7.block q HI6A.out.siz.2 (fun e => HI6A.out.ap e.symm))).trans HI6A.out.m.f1; have hk7 := hg7.cell HI6A.out.pb.c0 (fun e => hlow _ e.symm rfl); have hk6 := HI7.out.pb.c0
                  refine hK.out _ _ ?_ (fun hHeld => ?_)
                  · (first | (with_reducible exact hHeld) | (with_reducible exact hk7) | (with_reducible exact hk6) | exact hk5 | go_keep)
                  clear hK K
                  try simp only [Act.put, List.setIfInBounds_toArray, List.set_cons_zero, List.set_cons_succ]
                  refine wpAnyH_take (i := 14) (v := ?_) rfl (by kernel_rfl) (by kernel_rfl) (by kernel_rfl) (fun _ _ _ h => h) (Or.inl ⟨by rfl, ?_⟩) (by assumption) ?_
                  rotate_left 1
                  · (intro w' hSw; (try dsimp only at hSw); go_simp <;> with_reducible rfl)
                  simp only [Act.put, List.setIfInBounds_toArray, List.set_cons_zero, List.set_cons_succ]
                  refine wpAnyH_ready (rs := [15]) (by kernel_rfl) (by simp) ?_
                  refine (AllReadyH.cons rfl (fun K hK => ?_) AllReadyH.nil)
                  go_simp
                  refine hK.out _ _ ?_ (fun hHeld => ?_)
                  · (first | (with_reducible exact hHeld) | (with_reducible exact hk7) | (with_reducible exact hk6) | exact hk5 | go_keep)
                  clear hK K
                  try simp only [Act.put, List.setIfInBounds_toArray, List.set_cons_zero, List.set_cons_succ]
                  refine wpAnyH_done (by kernel_rfl) ?_ _
                  refine NoPanic.normal ?_
                  clear hown7 hg7 hlies hk7 hk6 hk5 p0 m0 m1 mf1 n1 cq fq HI6A HI6 HId
                  go_wp2
                  go_roundw
                  case rel => exact ⟨k + 1, some ⟨gN, 0, none⟩, cap, by go_num, by omega, by rw [HST.out, List.length_append]; exact HI7.out⟩
                  case measure => simp [intOf] <;> omega
                · skip
                  go_simp
                  refine hK.out _ _ ?_ (fun hHeld => ?_)
                  · (first | (with_reducible exact hHeld) | (with_reducible exact hk7) | (with_reducible exact hk6) | exact hk5 | go_keep)
                  clear hK K
                  try simp only [Act.put, List.setIfInBounds_toArray, List.set_cons_zero, List.set_cons_succ]
                  refine wpAnyH_ready (rs := [1]) (by kernel_rfl) (by simp) ?_
                  refine (AllReadyH.cons rfl (fun K hK => ?_) AllReadyH.nil)
                  go_simp
                  refine hK.out _ _ ?_ (fun hHeld => ?_)
                  · (first | (with_reducible exact hHeld) | (with_reducible exact hk7) | (with_reducible exact hk6) | exact hk5 | go_keep)
                  clear hK K
                  try simp only [Act.put, List.setIfInBounds_toArray, List.set_cons_zero, List.set_cons_succ]
                  refine wpAnyH_ready (rs := [13]) (by kernel_rfl) (by simp) ?_
                  refine (AllReadyH.cons rfl (fun K hK => ?_) AllReadyH.nil)
                  refine step_append_ints_l Tryd.underlying26 hi hz0 hz1 hz2 (by decide) (by rfl) _ _ (by rfl) q _ (getTo l 3 root k) t _ w6.heap.size HI6A.out.own (by simp [Act.eval]) (by simp [Act.eval]) (by simp [go_sem]) hle hq6 ?_; intro gN cap w7 hown7 hg7 hlies; have HI7 := Lib.hid (HI6A.out.push hown7 hg7 hlies); have cq := hg7.cell HI6A.out.m.c1 (fun e => HI6A.out.ap e.symm); have fq := (World.frozen?_of_block (a := ⟨q, 1, none⟩) (hg7.block q HI6A.out.siz.2 (fun e => HI6A.out.ap e.symm))).trans HI6A.out.m.f1; have hk7 := hg7.cell HI6A.out.pb.c0 (fun e => hlow _ e.symm rfl); have hk6 := HI7.out.pb.c0
                  refine hK.out _ _ ?_ (fun hHeld => ?_)
                  · (first | (with_reducible exact hHeld) | (with_reducible exact hk7) | (with_reducible exact hk6) | exact hk5 | go_keep)
                  clear hK K
                  try simp only [Act.put, List.setIfInBounds_toArray, List.set_cons_zero, List.set_cons_succ]
                  refine wpAnyH_take (i := 14) (v := ?_) rfl (by kernel_rfl) (by kernel_rfl) (by kernel_rfl) (fun _ _ _ h => h) (Or.inl ⟨by rfl, ?_⟩) (by assumption) ?_
                  rotate_left 1
                  · (intro w' hSw; (try dsimp only at hSw); go_simp <;> with_reducible rfl)
                  simp only [Act.put, List.setIfInBounds_toArray, List.set_cons_zero, List.set_cons_succ]
                  refine wpAnyH_ready (rs := [15]) (by kernel_rfl) (by simp) ?_
                  refine (AllReadyH.cons rfl (fun K hK => ?_) AllReadyH.nil)
                  go_simp
                  refine hK.out _ _ ?_ (fun hHeld => ?_)
                  · (first | (with_reducible exact hHeld) | (with_reducible exact hk7) | (with_reducible exact hk6) | exact hk5 | go_keep)
                  clear hK K
                  try simp only [Act.put, List.setIfInBounds_toArray, List.set_cons_zero, List.set_cons_succ]
                  refine wpAnyH_done (by kernel_rfl) ?_ _
                  refine NoPanic.normal ?_
                  clear hown7 hg7 hlies hk7 hk6 hk5 p0 m0 m1 mf1 n1 cq fq HI6A HI6 HId
                  go_wp2
                  go_roundw
                  case rel => exact ⟨k + 1, some ⟨gN, 0, none⟩, cap, by go_num, by omega, by rw [HST.out, List.length_append]; exact HI7.out⟩
                  case measure => simp [intOf] <;> omega
            · obtain rfl : k = 64 := by omega
              obtain ⟨m0, m1, _, mf1⟩ := HI.out.m
              obtain ⟨c0, c1, c2', f0, f1, f2⟩ := HI.out.res
              obtain ⟨z1, z2⟩ := HI.out.siz
              go_wp2
              refine bodyPost_ret (v := .agg #[.int .i64 8, .slice A2 (getTo l 3 root 64).length c2, .int .i64 0]) (by simp [results, Tryd.results60, go_sem, c0, c1, c2']) rfl ?_
              rw [HE.out]
              refine ⟨A2, c2, rfl, ?_, ((HI.out.pb.bel.setCell (by simp) _).setCell (by simp) _).setCell (by simp) _⟩
              exact OwnI.lower (base := q) (by omega) (OwnI.set_below (by show w.heap.size + 1 < _; omega) _ (OwnI.set_below (by show w.heap.size + 1 < _; omega) _ (OwnI.set_below (by show w.heap.size + 1 < _; omega) _ HI.out.own)))
      · have HE : Hid (getG l root 8 = (8, 0, [])) := by
          show _ = _
          rw [getG, HTH.out, if_pos rfl, if_neg (by show ¬ (hts l).getD root 0 ≤ _; rw [HGT.out]; exact hh)]
        have hhb : decide ((3 : Int) < (hts l)[root]) = true := decide_eq_true (by omega)
        generalize heq : (hts l)[root] = hv at *
        have HEQ := Lib.hid heq
        clear heq
        go_enter Tryd.func60, Tryd.ntmps60
        go_wp2_with fail
        refine (hTh _).mono ?_
        rintro e w1 ⟨rfl, hb1⟩
        have HP1 := Lib.hid (HP0.out.below hb1)
        have HY1 := Lib.hid (HY0.out.below hb1 (by simp))
        have hz1' : w.heap.size + 1 < w1.heap.size := by have := hb1.size; simp at this; omega
        clear hb1 HP0 HY0
        have p0 := HP1.out.c0
        have HPd := Lib.hid (HP1.out.below (Below.refl _ _).drew)
        have hri : (root : Int) < (l.length : Int) := by omega
        go_wp2_with fail
        first
          | (go_region_with (first
              | (go_at_call 68; refine (hHs _ HPd.out.rn).mono ?_; rintro e w2 ⟨A', c', rfl, ho2, hb2⟩; have HP2 := Lib.hid (HPd.out.below hb2); have HY2 := Lib.hid (HY1.out.below ((Below.refl w1.heap.size w1).drew.trans hb2) hz1'); have hz2' : w.heap.size + 1 < w2.heap.size := Nat.lt_of_lt_of_le hz1' hb2.size; obtain ⟨gh, rfl, _, _, hch, _⟩ := ho2.at_ (j := root) hkh; rw [HEQ.out] at hch; clear ho2 hb2)
              | (go_at_call 97; refine (hDb _).mono ?_; rintro e w3 ⟨rfl, rfl⟩)))
          | fail
        all_goals
          clear p0 hch HP1 HY1 HPd
          go_wp2_with fail
          refine (mIll_any 8 _).mono ?_
          rintro e w4 ⟨rfl, hb4⟩
          have HP4 := Lib.hid (HP2.out.below hb4)
          obtain ⟨c0, c1, c2, f0, f1, f2⟩ := HY2.out.below hb4 hz2'
          clear hb4
          go_wp2
          refine bodyPost_ret (v := .agg #[.int .i64 0, .slice none 0 0, .int .i64 8]) (by simp [results, Tryd.results60, go_sem, c0, c1, c2]) rfl ?_
          rw [HE.out]
          exact ⟨none, 0, rfl, OwnI.nil _ _ _ _, ((HP4.out.bel.setCell (by simp) _).setCell (by simp) _).setCell (by simp) _⟩
end Go.Proofs.YtoobkajilbmdhaaDoor
