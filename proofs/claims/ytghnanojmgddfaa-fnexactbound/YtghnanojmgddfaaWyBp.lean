/- The program's ways: tables baked. -/
import Derived.Test.YtghnanojmgddfaaWyDp
import Derived.Test.YtghnanojmgddfaaWyBm
namespace Go.Proofs.Ytghnanojmgddfaa
open Go.RowKit
set_option linter.unusedVariables false
set_option linter.unusedSimpArgs false

/-- A box of a place beside a row that grows, and beside a cell that is stored. -/
theorem plb_grown {w w' : World} {q bo : Nat} {x y : Int} {v : Value} (hg : w.grownBy w' v.ownBlock) (h : PlB w q x y) (hq : q < w.heap.size) (hn : v.ownBlock ≠ some q) (hb : q ≠ bo) : PlB w' q x y ∧ ∀ u, PlB (w'.setCell ⟨bo, 1, none⟩ u) q x y := by
  have e := hg.block q hq (fun e => hn e.symm)
  have h1 : PlB w' q x y := ⟨(cell_at e).trans h.c0, (cell_at e).trans h.c1⟩
  exact ⟨h1, fun u => ⟨(World.cell?_setCell_other _ _ _ _ (by simp [hb])).trans h1.c0, (World.cell?_setCell_other _ _ _ _ (by simp [hb])).trans h1.c1⟩⟩

set_option maxHeartbeats 400000 in
theorem pClonePl_any (b off c : Nat) (l : List Pl) (w : World) (hn : RPl w w.heap.size (some ⟨b, off, none⟩) l) (hl : l.length ≤ 1000000) :
    Calls Try.prog 63 #[.slice (some ⟨b, off, none⟩) l.length c] w fun e w' => ∃ A' c', e = .returned (.slice A' l.length c') ∧ OwnPl w' w.heap.size (.slice A' l.length c') l ∧ Below w.heap.size w w' := by
  obtain ⟨i0, hi, hz0, hz1, hz2⟩ := info_parts Try.infoPl
  have HB := Lib.hid ((Below.refl w.heap.size w).alloc (Nat.le_refl _) (.cells #[] 27))
  have HO := Lib.hid (OwnPl.none_lit w w.heap.size (Nat.le_refl _))
  have HN : Hid (∀ j (hj : j < l.length), PlAt (w.alloc (.cells #[] 27)) b (off + j * 2) l[j]) := by
    intro j hj
    obtain ⟨b', o', e, hlt, hp⟩ := (hn.below HB.out).at_ hj
    cases e
    exact hp
  clear hn
  have hq : ∀ (w : World) (a : Option Addr) (n c n' c' : Nat), (binOp .eql 30 (.slice a n c) (.slice none n' c')).run Try.prog w = .ok (.bool a.isNone) w := fun w a n c n' c' => Lib.run_eql_slice_nil w _ _ a n c n' c' Try.underlying30
  go_enter Try.func63, Try.ntmps63
  go_wp2_with (at_builtin; refine append_pls hi hz0 hz1 hz2 rfl _ _ rfl w.heap.size _ [] l (w.alloc (.cells #[] 27)) b off c HO.out rfl rfl HN.out (by simp; omega) (by simp) ?_; intro v' w1 hown1 hg1)
  go_ret
  rw [List.nil_append] at hown1
  obtain ⟨A', c', rfl⟩ := hown1.form
  exact ⟨A', c', rfl, hown1, HB.out.trans ((Below.refl _ _).grown hg1 (by simp) (fun k hk => by cases hk; exact Nat.le_refl _))⟩

set_option maxRecDepth 100000 in
set_option maxHeartbeats 2000000 in
theorem pBake_any (side : Int) (A : Option Addr) (c : Nat) (l : List Int) (bm offm cm : Nat) (ms : List Pl) (D : Nat → List Int) (w : World) (h : RI w w.heap.size A l) (hm : RPl w w.heap.size (some ⟨bm, offm, none⟩) ms) (hl : l.length ≤ 1000000000) (hml : ms.length ≤ 1100000) (hf : ∀ i (h : i < ms.length), In64 ms[i].x ∧ In64 ms[i].y) (hd : IsB side l ms D) :
    Calls Try.prog 21 #[.agg #[.int .i64 side, .slice A l.length c], .slice (some ⟨bm, offm, none⟩) ms.length cm] w fun e w' => TOut w w' (bakeM side l ms) (bakeD side l ms D) e := by
  obtain ⟨i1, hi1, hy0, hy1, hy2⟩ := info_parts Try.infoInt
  have H := Lib.hid h
  have HMS := Lib.hid hm
  have HZ : Hid (∀ wr, Below w.heap.size w wr → TOut w wr [] [] (.returned (.agg #[.slice none 0 0, .slice none 0 0]))) := fun wr hb => ⟨none, 0, none, 0, rfl, OwnPl.nil _ _, World.ownsRow_nil _ _ _ _, fun k hk => by simp [Value.ownBlock] at hk, hb⟩
  have HB0 : Hid (GB ((w.alloc (.cells #[.int .i64 side, .slice A l.length c] 25)).alloc (.cells #[.slice none 0 0, .slice none 0 0] 45)) w.heap.size side (.slice A l.length c) ∧ TB ((w.alloc (.cells #[.int .i64 side, .slice A l.length c] 25)).alloc (.cells #[.slice none 0 0, .slice none 0 0] 45)) (w.heap.size + 1) (.slice none 0 0) (.slice none 0 0) ∧ Below w.heap.size w ((w.alloc (.cells #[.int .i64 side, .slice A l.length c] 25)).alloc (.cells #[.slice none 0 0, .slice none 0 0] 45))) :=
    ⟨⟨by simp [go_sem], by simp [go_sem], by simp [go_sem], by simp [go_sem]⟩, ⟨by simp [go_sem], by simp [go_sem], by simp [go_sem], by simp [go_sem]⟩, bel_T (bel_A _ _) (bel_A _ _)⟩
  have HF := Lib.hid hf
  have HDD := Lib.hid hd
  have HL := Lib.hid hl
  clear h hm hf hd hl
  by_cases h4 : ms.length ≤ 4
  · have hq4 : decide ((4 : Int) < (ms.length : Int)) = false := by simp; omega
    have HMSB : Hid (∀ wr, Below w.heap.size w wr → ∀ j (hj : j < ms.length), PlAt wr bm (offm + j * 2) ms[j] ∧ bm < w.heap.size) := by
      intro wr hb j hj
      obtain ⟨b', o', e, hlt, hp⟩ := HMS.out.at_ hj
      cases e
      exact ⟨hp.keep (hb.block _ hlt), hlt⟩
    have hCl := fun w h => pClonePl_any bm offm cm ms w h (by omega)
    go_enter Try.func21, Try.ntmps21
    go_wp2_with fail
    refine (hCl _ ((HMS.out.below HB0.out.2.2).mono HB0.out.2.2.size)).mono ?_
    rintro e w2 ⟨AM, cM, rfl, hoM, hb2⟩
    have HK0 : Hid (BK w side A c l w2.heap.size (.slice AM ms.length cM) (.slice none 0 0) ms [] (w2.alloc (.cells #[.slice AM ms.length cM, .slice none 0 0] 45))) := by
      have hz : w.heap.size + 1 + 1 ≤ w2.heap.size := by have := hb2.size; simpa using this
      have ho := hoM.lt
      have e0 : ((w.alloc (.cells #[.int .i64 side, .slice A l.length c] 25)).alloc (.cells #[.slice none 0 0, .slice none 0 0] 45)).heap.size = w.heap.size + 1 + 1 := by simp
      refine ⟨(HB0.out.1.below hb2 (by simp; omega)).below (bel_A w2 _) (by omega), (HB0.out.2.1.below hb2 (by simp)).below (bel_A w2 _) (by omega), TB.made _ _ _ _, (OwnPl.lower (by omega) hoM).alloc _, World.ownsRow_nil _ _ _ _, fun k hk => by simp [Value.ownBlock], fun e => by have := (ho _ e).2; omega, by simp [Value.ownBlock], ⟨by omega, by simp⟩, bel_T (bel_T HB0.out.2.2 hb2) (bel_A _ _)⟩
    clear hCl hb2 HB0
    go_wp2_with fail
    generalize w2.alloc (.cells #[.slice AM ms.length cM, .slice none 0 0] 45) = w3 at HK0 ⊢
    generalize w2.heap.size = bo at HK0 ⊢
    clear hoM
    go_wp2_with fail
    go_loopw [17] (fun i wr => ∃ (k : Nat) (AD : Option Addr) (cD : Nat), i = .int .i64 k ∧ k ≤ ms.length ∧ BK w side A c l bo (.slice AM ms.length cM) (.slice AD (flatD D k).length cD) ms (flatD D k) wr ∧ Hid (∀ i (h : i < ms.length), i < k → (gridRight side l && opn side l ms[i].x ms[i].y) = true)) (fun i _ => ms.length - (intOf i).toNat)
    case atStart => exact ⟨0, none, 0, rfl, Nat.zero_le _, HK0.out, fun i _ h => absurd h (by omega)⟩
    case round =>
      obtain ⟨k, AD, cD, rfl, hk, hbk, HOP⟩ := hrel
      have HK := Lib.hid hbk
      clear HK0 hbk
      by_cases hlt : k < ms.length
      · have hkI : (k : Int) < (ms.length : Int) := by omega
        have hp := (HMSB.out wr HK.out.bel k hlt).1
        have hpf := HF.out k hlt
        have HDk := Lib.hid (fun ho => HDD.out k hlt ho)
        have HOk : Hid (∀ b, (gridRight side l && opn side l ms[k].x ms[k].y) = b → ∀ i (h : i < ms.length), i < k + 1 → b = true → (gridRight side l && opn side l ms[i].x ms[i].y) = true) := by
          intro b hb i hi hik hbt
          by_cases e : i < k
          · exact HOP.out i hi e
          · obtain rfl : i = k := by omega
            exact hb.trans hbt
        have HNO : Hid ((gridRight side l && opn side l ms[k].x ms[k].y) = false → bakeM side l ms = [] ∧ bakeD side l ms D = []) := by
          intro ho
          have : bakeOk side l ms = false := by
            cases e : bakeOk side l ms
            · rfl
            · simp only [bakeOk, Bool.and_eq_true, List.all_eq_true] at e
              rw [e.1.1, e.2 _ (List.getElem_mem hlt)] at ho
              cases ho
          constructor <;> simp [bakeM, bakeD, this]
        generalize ms[k] = p at hp hpf HDk HOk HNO
        obtain ⟨ux, uy⟩ := p
        simp only at hp hpf HDk HOk HNO
        obtain ⟨p0, p1⟩ := hp
        simp only at p0 p1
        have hOp := fun w h => pOpen5_any side ux uy A c l w h HL.out hpf.1 hpf.2
        have HK1 := Lib.hid (HK.out.below (bel_A wr (.cells #[.int .i64 ux, .int .i64 uy] 27)))
        have HP1 : Hid (PlB (wr.alloc (.cells #[.int .i64 ux, .int .i64 uy] 27)) wr.heap.size ux uy) := ⟨by simp [go_sem], by simp [go_sem]⟩
        have HQ1 : Hid (wr.heap.size < (wr.alloc (.cells #[.int .i64 ux, .int .i64 uy] 27)).heap.size) := by show _ < _; simp
        obtain ⟨g0, g1, _, _⟩ := HK1.out.g
        cases ho : (gridRight side l && opn side l ux uy)
        · rw [ho] at hOp HNO
          clear ho
          go_wp2_with fail
          refine (hOp _ ((H.out.below HK1.out.bel).mono HK1.out.bel.size)).mono ?_
          rintro e w4 ⟨rfl, hb⟩
          have HK4 := Lib.hid (HK1.out.below hb)
          obtain ⟨r0, r1, rf0, rf1⟩ := HK4.out.r
          clear hb g0 g1
          go_wp2_with fail
          refine bodyPost_ret (v := .agg #[.slice none 0 0, .slice none 0 0]) (by simp [results, Try.results21, go_sem, r0, r1]) rfl ?_
          rw [(HNO.out (by trivial)).1, (HNO.out (by trivial)).2]
          exact HZ.out _ ((HK4.out.bel.setCell (by simp) _).setCell (by simp) _)
        · rw [ho] at hOp
          have HO1 := Lib.hid (HOk.out true ho)
          have HR : Hid (gridRight side l = true) := by simp only [Bool.and_eq_true] at ho; exact ho.1
          have hop : opn side l ux uy = true := by simp only [Bool.and_eq_true] at ho; exact ho.2
          have HDE : Hid (dOut side l ux uy (D k) = D k) := by show _ = _; rw [dOut, ho]; rfl
          have hD := fun w h => pDists_any side ux uy A c l (D k) w h HL.out hpf.1 hpf.2 HDk.out
          rw [HDE.out] at hD
          unfold NOut at hD
          have HDL : Hid ((D k).length = l.length) := (HDk.out ho).len
          have HL0 : Hid (0 < l.length) := by have := (opn_parts HR.out hop).2.1; show _ < _; omega
          clear ho hop
          go_wp2_with fail
          refine (hOp _ ((H.out.below HK1.out.bel).mono HK1.out.bel.size)).mono ?_
          rintro e w4 ⟨rfl, hb⟩
          have HK4 := Lib.hid (HK1.out.below hb)
          have HP4 : Hid (PlB w4 wr.heap.size ux uy ∧ wr.heap.size < w4.heap.size) := ⟨HP1.out.below hb HQ1.out, Nat.lt_of_lt_of_le HQ1.out hb.size⟩
          have HQN : Hid ((Value.slice AD (flatD D k).length cD).ownBlock ≠ some wr.heap.size) := fun e => by have := (World.ownsRow.lt HK.out.oD _ e).2; omega
          have HQB : Hid (wr.heap.size ≠ bo) := by have := HK.out.bo2.2; show _ ≠ _; omega
          generalize wr.heap.size = q at HP4 HQN HQB ⊢
          clear hb g0 g1 p0 p1 hOp HK1 HP1 HQ1
          have HS9 : Hid (∀ wr', Below w4.heap.size w4 wr' → wr'.cell? ⟨w.heap.size, 0, none⟩ = some (.int .i64 side) ∧ wr'.cell? ⟨w.heap.size, 1, none⟩ = some (.slice A l.length c) ∧ wr'.cell? ⟨q, 0, none⟩ = some (.int .i64 ux) ∧ wr'.cell? ⟨q, 1, none⟩ = some (.int .i64 uy) ∧ wr'.cell? ⟨bo, 1, none⟩ = some (.slice AD (flatD D k).length cD)) := fun wr' hb => ⟨(HK4.out.below hb).g.c0, (HK4.out.below hb).g.c1, (HP4.out.1.below hb HP4.out.2).c0, (HP4.out.1.below hb HP4.out.2).c1, (HK4.out.below hb).o.c1⟩
          have k9 := HS9.out _ (bel_D w4)
          have hkeep := And.intro k9.1 (And.intro k9.2.1 (And.intro k9.2.2.1 k9.2.2.2.1))
          have c91 := k9.2.2.2.2
          clear k9
          have HFL : Hid ((flatD D k).length + (D k).length ≤ 1000000) := by
            have h1 := flatD_len HDD.out HR.out k (by omega) (fun i h hi => by have := HOP.out i h hi; simp only [Bool.and_eq_true] at this; exact this.2)
            have h2 := HDL.out
            have h3 := right_len HR.out
            have h4 := Nat.mul_le_mul (show k ≤ 4 by omega) h3
            show _ ≤ _
            omega
          go_upto_region 9 with fail
          have hf1 := HK4.out.o.f1
          refine wp_region_noPanic ?_
          refine wp_region_held_drew (S := (fun w' => w'.cell? ⟨w.heap.size, 0, none⟩ = some (.int .i64 side) ∧ w'.cell? ⟨w.heap.size, 1, none⟩ = some (.slice A l.length c) ∧ w'.cell? ⟨q, 0, none⟩ = some (.int .i64 ux) ∧ w'.cell? ⟨q, 1, none⟩ = some (.int .i64 uy))) (by kernel_rfl) hkeep (fun hHeld => ?_)
          refine wpAnyH_take (i := 0) (v := ?_) rfl (by kernel_rfl) (by kernel_rfl) (by kernel_rfl) (fun _ _ _ h => h) (Or.inl ⟨by rfl, ?_⟩) (by assumption) ?_
          rotate_left 1
          · (intro w' hSw; (try dsimp only at hSw); go_simp <;> with_reducible rfl)
          simp only [Act.put, List.getElem_toArray, List.getElem_cons_succ, List.getElem_cons_zero, List.setIfInBounds_toArray, List.set_cons_zero, List.set_cons_succ]
          refine wpAnyH_take (i := 2) (v := ?_) rfl (by kernel_rfl) (by kernel_rfl) (by kernel_rfl) (fun _ _ _ h => h) (Or.inl ⟨by rfl, ?_⟩) (by assumption) ?_
          rotate_left 1
          · (intro w' hSw; (try dsimp only at hSw); go_simp <;> with_reducible rfl)
          simp only [Act.put, List.getElem_toArray, List.getElem_cons_succ, List.getElem_cons_zero, List.setIfInBounds_toArray, List.set_cons_zero, List.set_cons_succ]
          refine wpAnyH_take (i := 3) (v := ?_) rfl (by kernel_rfl) (by kernel_rfl) (by kernel_rfl) (fun _ _ _ h => h) (Or.inl ⟨by rfl, ?_⟩) (by assumption) ?_
          rotate_left 1
          · (intro w' hSw; (try dsimp only at hSw); go_simp <;> with_reducible rfl)
          simp only [Act.put, List.getElem_toArray, List.getElem_cons_succ, List.getElem_cons_zero, List.setIfInBounds_toArray, List.set_cons_zero, List.set_cons_succ]
          refine wpAnyH_ready (rs := [1, 4]) (by kernel_rfl) (by simp) ?_
          refine (AllReadyH.cons rfl (fun K hK => ?_) (AllReadyH.cons rfl (fun K hK => ?_) AllReadyH.nil))
          · skip
            go_simp
            refine hK.out _ _ ?_ (fun hHeld => ?_)
            · (first | (with_reducible exact hkeep) | (with_reducible exact And.intro HK7.out.g.c0 (And.intro HK7.out.g.c1 (And.intro (HP6.out.2 _).c0 (HP6.out.2 _).c1))) | go_keep)
            clear hK K
            try simp only [Act.put, List.getElem_toArray, List.getElem_cons_succ, List.getElem_cons_zero, List.setIfInBounds_toArray, List.set_cons_zero, List.set_cons_succ]
            refine wpAnyH_ready (rs := [4]) (by kernel_rfl) (by simp) ?_
            refine (AllReadyH.cons rfl (fun K hK => ?_) AllReadyH.nil)
            go_simp
            (go_at_call 12; refine (hD _ ((H.out.below (bel_T HK4.out.bel (bel_D w4))).mono (bel_T HK4.out.bel (bel_D w4)).size)).mono ?_; rintro e w5 ⟨A5, c5, rfl, ho5, hb⟩; have HP5 := Lib.hid (And.intro (HP4.out.1.below (bel_T (bel_D w4) hb) HP4.out.2) (Nat.lt_of_lt_of_le HP4.out.2 (bel_T (bel_D w4) hb).size)); have HK5 := Lib.hid (HK4.out.below (bel_T (bel_D w4) hb)); have HO5 := Lib.hid ho5; obtain ⟨g5, rfl, _, _, _, _⟩ := ho5.at_ (j := 0) (by rw [HDL.out]; exact HL0.out); have HN5 : Hid (∀ j (hj : j < (D k).length), w5.cell? ⟨g5, 0 + j, none⟩ = some (.int .i64 (D k)[j])) := by { intro j hj; obtain ⟨g6, e6, _, _, hc6, _⟩ := HO5.out.at_ hj; cases e6; rw [Nat.zero_add]; exact hc6 }; have HL5 : Hid (0 < (D k).length) := by { rw [HDL.out]; exact HL0.out }; have HZ5 : Hid (w.heap.size + 1 + 1 ≤ w5.heap.size) := Nat.le_of_lt (Nat.lt_of_le_of_lt HK5.out.bo2.1 HK5.out.bo2.2); have k9 := HS9.out _ (bel_T (bel_D w4) hb); clear hkeep; have hkeep := And.intro k9.1 (And.intro k9.2.1 (And.intro k9.2.2.1 k9.2.2.2.1)); have c91 := k9.2.2.2.2; clear hb)
            try go_wp2_with fail
            refine hK.out _ _ ?_ (fun hHeld => ?_)
            · (first | (with_reducible exact hkeep) | (with_reducible exact And.intro HK7.out.g.c0 (And.intro HK7.out.g.c1 (And.intro (HP6.out.2 _).c0 (HP6.out.2 _).c1))) | go_keep)
            clear hK K
            try simp only [Act.put, List.getElem_toArray, List.getElem_cons_succ, List.getElem_cons_zero, List.setIfInBounds_toArray, List.set_cons_zero, List.set_cons_succ]
            refine wpAnyH_ready (rs := [5]) (by kernel_rfl) (by simp) ?_
            refine (AllReadyH.cons rfl (fun K hK => ?_) AllReadyH.nil)
            (refine step_app_ints hi1 hy0 hy1 hy2 (by rfl) _ _ (by rfl) (w.heap.size + 1 + 1) (.slice AD (flatD D k).length cD) (flatD D k) (D k) w5 g5 0 c5 HK5.out.oD (by rfl) (by rfl) HN5.out HL5.out HFL.out HZ5.out ?_; intro g cap w6 ho6 hg6 hl6; have c6 := (World.cell?_of_block (a := ⟨bo, 1, none⟩) (hg6.block bo HK5.out.bo2.2 (fun e => HK5.out.aD e.symm))).trans HK5.out.o.c1; have f6 := (World.frozen?_of_block (a := ⟨bo, 1, none⟩) (hg6.block bo HK5.out.bo2.2 (fun e => HK5.out.aD e.symm))).trans HK5.out.o.f1; have HG6 := Lib.hid (HK5.out.mid hg6); have HK7 := Lib.hid (HK5.out.push ho6 hg6 hl6); have HP6 := Lib.hid (plb_grown hg6 HP5.out.1 HP5.out.2 HQN.out HQB.out); clear hkeep; have hkeep := And.intro HG6.out.1.c0 (And.intro HG6.out.1.c1 (And.intro HP6.out.1.c0 HP6.out.1.c1)))
            refine hK.out _ _ ?_ (fun hHeld => ?_)
            · (first | (with_reducible exact hkeep) | (with_reducible exact And.intro HK7.out.g.c0 (And.intro HK7.out.g.c1 (And.intro (HP6.out.2 _).c0 (HP6.out.2 _).c1))) | go_keep)
            clear hK K
            try simp only [Act.put, List.getElem_toArray, List.getElem_cons_succ, List.getElem_cons_zero, List.setIfInBounds_toArray, List.set_cons_zero, List.set_cons_succ]
            refine wpAnyH_take (i := 6) (v := ?_) rfl (by kernel_rfl) (by kernel_rfl) (by kernel_rfl) (fun _ _ _ h => h) (Or.inl ⟨by rfl, ?_⟩) (by assumption) ?_
            rotate_left 1
            · (intro w' hSw; (try dsimp only at hSw); go_simp <;> with_reducible rfl)
            simp only [Act.put, List.getElem_toArray, List.getElem_cons_succ, List.getElem_cons_zero, List.setIfInBounds_toArray, List.set_cons_zero, List.set_cons_succ]
            refine wpAnyH_ready (rs := [7]) (by kernel_rfl) (by simp) ?_
            refine (AllReadyH.cons rfl (fun K hK => ?_) AllReadyH.nil)
            go_simp
            refine hK.out _ _ ?_ (fun hHeld => ?_)
            · (first | (with_reducible exact hkeep) | (with_reducible exact And.intro HK7.out.g.c0 (And.intro HK7.out.g.c1 (And.intro (HP6.out.2 _).c0 (HP6.out.2 _).c1))) | go_keep)
            clear hK K
            try simp only [Act.put, List.getElem_toArray, List.getElem_cons_succ, List.getElem_cons_zero, List.setIfInBounds_toArray, List.set_cons_zero, List.set_cons_succ]
            refine wpAnyH_done (by kernel_rfl) ?_ _
            refine NoPanic.normal ?_
            have HK8 : Hid (BK w side A c l bo (.slice AM ms.length cM) (.slice (some ⟨g, 0, none⟩) (flatD D (k + 1)).length cap) ms (flatD D (k + 1)) (w6.setCell ⟨bo, 1, none⟩ (.slice (some ⟨g, 0, none⟩) ((flatD D k).length + (D k).length) cap))) := by have h7 := HK7.out; rw [flatD_succ, List.length_append]; exact h7
            clear hkeep c6 f6 HG6 HP6 HK7 c91 hf1 ho6 hg6 hl6
            go_wp2_with fail
            go_roundw
            case rel => exact ⟨k + 1, some ⟨g, 0, none⟩, cap, by go_num, by omega, HK8.out, fun i h h2 => HO1.out i h h2 (by trivial)⟩
            case measure => simp [intOf] <;> omega
          · skip
            go_simp
            (go_at_call 12; refine (hD _ ((H.out.below (bel_T HK4.out.bel (bel_D w4))).mono (bel_T HK4.out.bel (bel_D w4)).size)).mono ?_; rintro e w5 ⟨A5, c5, rfl, ho5, hb⟩; have HP5 := Lib.hid (And.intro (HP4.out.1.below (bel_T (bel_D w4) hb) HP4.out.2) (Nat.lt_of_lt_of_le HP4.out.2 (bel_T (bel_D w4) hb).size)); have HK5 := Lib.hid (HK4.out.below (bel_T (bel_D w4) hb)); have HO5 := Lib.hid ho5; obtain ⟨g5, rfl, _, _, _, _⟩ := ho5.at_ (j := 0) (by rw [HDL.out]; exact HL0.out); have HN5 : Hid (∀ j (hj : j < (D k).length), w5.cell? ⟨g5, 0 + j, none⟩ = some (.int .i64 (D k)[j])) := by { intro j hj; obtain ⟨g6, e6, _, _, hc6, _⟩ := HO5.out.at_ hj; cases e6; rw [Nat.zero_add]; exact hc6 }; have HL5 : Hid (0 < (D k).length) := by { rw [HDL.out]; exact HL0.out }; have HZ5 : Hid (w.heap.size + 1 + 1 ≤ w5.heap.size) := Nat.le_of_lt (Nat.lt_of_le_of_lt HK5.out.bo2.1 HK5.out.bo2.2); have k9 := HS9.out _ (bel_T (bel_D w4) hb); clear hkeep; have hkeep := And.intro k9.1 (And.intro k9.2.1 (And.intro k9.2.2.1 k9.2.2.2.1)); have c91 := k9.2.2.2.2; clear hb)
            try go_wp2_with fail
            refine hK.out _ _ ?_ (fun hHeld => ?_)
            · (first | (with_reducible exact hkeep) | (with_reducible exact And.intro HK7.out.g.c0 (And.intro HK7.out.g.c1 (And.intro (HP6.out.2 _).c0 (HP6.out.2 _).c1))) | go_keep)
            clear hK K
            try simp only [Act.put, List.getElem_toArray, List.getElem_cons_succ, List.getElem_cons_zero, List.setIfInBounds_toArray, List.set_cons_zero, List.set_cons_succ]
            refine wpAnyH_ready (rs := [1]) (by kernel_rfl) (by simp) ?_
            refine (AllReadyH.cons rfl (fun K hK => ?_) AllReadyH.nil)
            go_simp
            refine hK.out _ _ ?_ (fun hHeld => ?_)
            · (first | (with_reducible exact hkeep) | (with_reducible exact And.intro HK7.out.g.c0 (And.intro HK7.out.g.c1 (And.intro (HP6.out.2 _).c0 (HP6.out.2 _).c1))) | go_keep)
            clear hK K
            try simp only [Act.put, List.getElem_toArray, List.getElem_cons_succ, List.getElem_cons_zero, List.setIfInBounds_toArray, List.set_cons_zero, List.set_cons_succ]
            refine wpAnyH_ready (rs := [5]) (by kernel_rfl) (by simp) ?_
            refine (AllReadyH.cons rfl (fun K hK => ?_) AllReadyH.nil)
            (refine step_app_ints hi1 hy0 hy1 hy2 (by rfl) _ _ (by rfl) (w.heap.size + 1 + 1) (.slice AD (flatD D k).length cD) (flatD D k) (D k) w5 g5 0 c5 HK5.out.oD (by rfl) (by rfl) HN5.out HL5.out HFL.out HZ5.out ?_; intro g cap w6 ho6 hg6 hl6; have c6 := (World.cell?_of_block (a := ⟨bo, 1, none⟩) (hg6.block bo HK5.out.bo2.2 (fun e => HK5.out.aD e.symm))).trans HK5.out.o.c1; have f6 := (World.frozen?_of_block (a := ⟨bo, 1, none⟩) (hg6.block bo HK5.out.bo2.2 (fun e => HK5.out.aD e.symm))).trans HK5.out.o.f1; have HG6 := Lib.hid (HK5.out.mid hg6); have HK7 := Lib.hid (HK5.out.push ho6 hg6 hl6); have HP6 := Lib.hid (plb_grown hg6 HP5.out.1 HP5.out.2 HQN.out HQB.out); clear hkeep; have hkeep := And.intro HG6.out.1.c0 (And.intro HG6.out.1.c1 (And.intro HP6.out.1.c0 HP6.out.1.c1)))
            refine hK.out _ _ ?_ (fun hHeld => ?_)
            · (first | (with_reducible exact hkeep) | (with_reducible exact And.intro HK7.out.g.c0 (And.intro HK7.out.g.c1 (And.intro (HP6.out.2 _).c0 (HP6.out.2 _).c1))) | go_keep)
            clear hK K
            try simp only [Act.put, List.getElem_toArray, List.getElem_cons_succ, List.getElem_cons_zero, List.setIfInBounds_toArray, List.set_cons_zero, List.set_cons_succ]
            refine wpAnyH_take (i := 6) (v := ?_) rfl (by kernel_rfl) (by kernel_rfl) (by kernel_rfl) (fun _ _ _ h => h) (Or.inl ⟨by rfl, ?_⟩) (by assumption) ?_
            rotate_left 1
            · (intro w' hSw; (try dsimp only at hSw); go_simp <;> with_reducible rfl)
            simp only [Act.put, List.getElem_toArray, List.getElem_cons_succ, List.getElem_cons_zero, List.setIfInBounds_toArray, List.set_cons_zero, List.set_cons_succ]
            refine wpAnyH_ready (rs := [7]) (by kernel_rfl) (by simp) ?_
            refine (AllReadyH.cons rfl (fun K hK => ?_) AllReadyH.nil)
            go_simp
            refine hK.out _ _ ?_ (fun hHeld => ?_)
            · (first | (with_reducible exact hkeep) | (with_reducible exact And.intro HK7.out.g.c0 (And.intro HK7.out.g.c1 (And.intro (HP6.out.2 _).c0 (HP6.out.2 _).c1))) | go_keep)
            clear hK K
            try simp only [Act.put, List.getElem_toArray, List.getElem_cons_succ, List.getElem_cons_zero, List.setIfInBounds_toArray, List.set_cons_zero, List.set_cons_succ]
            refine wpAnyH_done (by kernel_rfl) ?_ _
            refine NoPanic.normal ?_
            have HK8 : Hid (BK w side A c l bo (.slice AM ms.length cM) (.slice (some ⟨g, 0, none⟩) (flatD D (k + 1)).length cap) ms (flatD D (k + 1)) (w6.setCell ⟨bo, 1, none⟩ (.slice (some ⟨g, 0, none⟩) ((flatD D k).length + (D k).length) cap))) := by have h7 := HK7.out; rw [flatD_succ, List.length_append]; exact h7
            clear hkeep c6 f6 HG6 HP6 HK7 c91 hf1 ho6 hg6 hl6
            go_wp2_with fail
            go_roundw
            case rel => exact ⟨k + 1, some ⟨g, 0, none⟩, cap, by go_num, by omega, HK8.out, fun i h h2 => HO1.out i h h2 (by trivial)⟩
            case measure => simp [intOf] <;> omega
      · obtain rfl : k = ms.length := by omega
        have HE : Hid (bakeM side l ms = ms ∧ bakeD side l ms D = flatD D ms.length) := by
          by_cases hz : ms.length = 0
          · have e : ms = [] := List.length_eq_zero_iff.1 hz
            subst e
            constructor <;> simp [bakeM, bakeD, flatD]
          · have h0 := HOP.out 0 (by omega) (by omega)
            simp only [Bool.and_eq_true] at h0
            have : bakeOk side l ms = true := by
              simp only [bakeOk, Bool.and_eq_true, List.all_eq_true, decide_eq_true_eq]
              refine ⟨⟨h0.1, h4⟩, fun p hp => ?_⟩
              obtain ⟨i, hi, rfl⟩ := List.getElem_of_mem hp
              have h1 := HOP.out i hi hi
              simp only [Bool.and_eq_true] at h1
              exact h1.2
            constructor <;> simp [bakeM, bakeD, this]
        obtain ⟨r0, r1, rf0, rf1⟩ := HK.out.r
        obtain ⟨o0, o1, _, _⟩ := HK.out.o
        have hn1 : ¬ bo = w.heap.size + 1 := by have := HK.out.bo2.1; omega
        go_wp2_with fail
        refine bodyPost_ret (v := .agg #[.slice AM ms.length cM, .slice AD (flatD D ms.length).length cD]) (by simp [results, Try.results21, go_sem, r0, r1]) rfl ?_
        rw [HE.out.1, HE.out.2]
        refine ⟨AM, cM, AD, cD, rfl, ?_, ?_, HK.out.ap, (HK.out.bel.setCell (by simp) _).setCell (by simp) _⟩
        · exact OwnPl.lower (by omega) (OwnPl.set_below (by simp) _ (OwnPl.set_below (by simp) _ HK.out.oM))
        · exact OwnI.lower (by omega) (OwnI.set_below (by simp) _ (OwnI.set_below (by simp) _ HK.out.oD))
  · have hq4 : decide ((4 : Int) < (ms.length : Int)) = true := by simp; omega
    have HE : Hid (bakeM side l ms = [] ∧ bakeD side l ms D = []) := by
      have : bakeOk side l ms = false := by simp [bakeOk, h4]
      constructor <;> simp [bakeM, bakeD, this]
    rw [HE.out.1, HE.out.2]
    obtain ⟨r0, r1, rf0, rf1⟩ := HB0.out.2.1
    go_enter Try.func21, Try.ntmps21
    go_wp2_with fail
    refine bodyPost_ret (v := .agg #[.slice none 0 0, .slice none 0 0]) (by simp [results, Try.results21, go_sem, r0, r1]) rfl ?_
    exact HZ.out _ HB0.out.2.2
end Go.Proofs.Ytghnanojmgddfaa
