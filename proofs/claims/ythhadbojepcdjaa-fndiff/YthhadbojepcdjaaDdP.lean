/- The program's DiffDo. -/
import Derived.Test.YthhadbojepcdjaaDdM
import Derived.Test.YthhadbojepcdjaaPgF
namespace Go.Proofs.Ythhadbojepcdjaa
open Go.RowKit
set_option linter.unusedVariables false

theorem place_bound2 {side x y : Int} {n : Nat} (hs : sideOk side = true) (hl : (n : Int) = side * side) (hi : gridIn side x y = true) : ∃ j : Nat, y * side + x = j ∧ j < n ∧ IntKind.i64.wrap (y * side) = y * side ∧ IntKind.i64.wrap (y * side + x) = y * side + x := by
  obtain ⟨h1, h2, h3, h4⟩ := gridIn_iff.1 hi
  have hy0 : 0 ≤ y * side := Int.mul_nonneg h3 (by omega)
  have hy1 : y * side ≤ (side - 1) * side := Int.mul_le_mul_of_nonneg_right (by omega) (by omega)
  rw [Int.sub_mul, Int.one_mul] at hy1
  have hl64 : n ≤ 64 := by rcases (sideOk_iff side).1 hs with rfl | rfl | rfl | rfl <;> omega
  refine ⟨(y * side + x).toNat, by omega, by omega, ?_, ?_⟩
  · exact IntWalk.i64_in _ (by omega)
  · exact IntWalk.i64_in _ (by omega)

/-- A map's row behind one change. -/
def doRow (side : Int) (t : List Int) (ch : Ch) : List Int := if doCode side t ch = 0 then t.set (chAt side ch) ch.n else t

set_option maxRecDepth 100000 in
set_option maxHeartbeats 1000000 in
theorem pChangeDo_any (side : Int) (g n c base : Nat) (t : List Int) (ch : Ch) (w : World) (hs : sideOk side = true) (hn : n = t.length) (ht : (n : Int) = side * side) (ho : OwnI 2 .i64 w base (.slice (some ⟨g, 0, none⟩) n c) t) (hx : In64 ch.x) (hy : In64 ch.y) :
    Calls Try.prog 29 #[.agg #[.int .i64 side, .slice (some ⟨g, 0, none⟩) n c], ch.val] w fun e w' => e = .returned (.int .i64 (doCode side t ch)) ∧ OwnI 2 .i64 w' base (.slice (some ⟨g, 0, none⟩) n c) (doRow side t ch) ∧ w.grownBy w' (some g) := by
  obtain ⟨nx, ny, no, nn⟩ := ch
  have hgl : g < w.heap.size := (World.ownsRow.lt ho g rfl).2
  have hPl := fun w => pPlace_any side nx ny w hs hx hy
  have hTt := pTile_any nn
  unfold Ch.val
  have HO := Lib.hid ho
  have HBA : Hid (Below w.heap.size w ((w.alloc (.cells #[.int .i64 side, .slice (some ⟨g, 0, none⟩) n c] 25)).alloc (.cells #[.int .i64 nx, .int .i64 ny, .int .i64 no, .int .i64 nn] 53))) := ((Below.refl _ _).alloc (Nat.le_refl _) _).alloc (by simp) _
  have HN := Lib.hid hn
  clear ho hx hy hn
  cases hin : gridIn side nx ny
  · rw [hin] at hPl
    have HC : Hid (doCode side t ⟨nx, ny, no, nn⟩ = 8) := by show _ = _; simp [doCode, hin]
    have HR : Hid (doRow side t ⟨nx, ny, no, nn⟩ = t) := by show _ = _; rw [doRow, HC.out]; rfl
    rw [HC.out, HR.out]
    clear hin
    go_enter Try.func29, Try.ntmps29
    go_wp2_with fail
    refine (hPl _).mono ?_
    rintro e w1 ⟨rfl, rfl⟩
    go_wp2
    go_ret
    exact ⟨rfl, HO.out.keep HBA.out, below_by HBA.out _⟩
  · rw [hin] at hPl
    cases htt : tileOk nn
    · rw [htt] at hTt
      have HC : Hid (doCode side t ⟨nx, ny, no, nn⟩ = 8) := by show _ = _; simp [doCode, htt]
      have HR : Hid (doRow side t ⟨nx, ny, no, nn⟩ = t) := by show _ = _; rw [doRow, HC.out]; rfl
      rw [HC.out, HR.out]
      clear hin htt
      go_enter Try.func29, Try.ntmps29
      go_wp2_with fail
      refine (hPl _).mono ?_
      rintro e w1 ⟨rfl, rfl⟩
      go_wp2_with fail
      refine (hTt _).mono ?_
      rintro e w1 ⟨rfl, rfl⟩
      go_wp2
      go_ret
      exact ⟨rfl, HO.out.keep HBA.out, below_by HBA.out _⟩
    · rw [htt] at hTt
      obtain ⟨j, hj, hjl, hw1, hw2⟩ := place_bound2 hs ht hin
      rw [hj] at hw2
      have hjt : j < t.length := by rw [← HN.out]; exact hjl
      have HAT : Hid (chAt side ⟨nx, ny, no, nn⟩ = j) := by show _ = _; simp [chAt, hj]
      have HCD : Hid (doCode side t ⟨nx, ny, no, nn⟩ = if t[j] = no then 0 else 10) := by show _ = _; rw [doCode, hin, htt, HAT.out, getD_at hjt]; rfl
      obtain ⟨g', eg, _, _, hcg, hfg⟩ := HO.out.at_ hjt
      cases eg
      have hjb : (j : Int) < n := by omega
      generalize t[j] = v at *
      have HJ := Lib.hid hj
      clear hin htt ht
      by_cases hv : v = no
      · have HC : Hid (doCode side t ⟨nx, ny, no, nn⟩ = 0) := by show _ = _; rw [HCD.out, if_pos hv]
        have HR : Hid (doRow side t ⟨nx, ny, no, nn⟩ = t.set j nn) := by show _ = _; rw [doRow, HC.out, HAT.out]; rfl
        rw [HC.out, HR.out]
        subst hv
        have HS := Lib.hid (HO.out.store (j := j) nn)
        go_enter Try.func29, Try.ntmps29
        go_wp2_with fail
        refine (hPl _).mono ?_
        rintro e w1 ⟨rfl, rfl⟩
        go_wp2_with fail
        refine (hTt _).mono ?_
        rintro e w1 ⟨rfl, rfl⟩
        go_wp2_with fail
        go_region
        go_wp2
        go_ret
        exact ⟨rfl, ((HS.out.1.alloc _).alloc _).drew, by_trans HS.out.2 (below_by (((Below.refl _ _).alloc (Nat.le_refl _) _).alloc (by simp) _).drew _)⟩
      · have hvb : (v != no) = true := by simpa using hv
        have HC : Hid (doCode side t ⟨nx, ny, no, nn⟩ = 10) := by show _ = _; rw [HCD.out, if_neg hv]
        have HR : Hid (doRow side t ⟨nx, ny, no, nn⟩ = t) := by show _ = _; rw [doRow, HC.out]; rfl
        rw [HC.out, HR.out]
        go_enter Try.func29, Try.ntmps29
        go_wp2_with fail
        refine (hPl _).mono ?_
        rintro e w1 ⟨rfl, rfl⟩
        go_wp2_with fail
        refine (hTt _).mono ?_
        rintro e w1 ⟨rfl, rfl⟩
        go_wp2_with fail
        go_region
        go_wp2
        go_ret
        exact ⟨rfl, HO.out.keep HBA.out.drew, below_by HBA.out.drew _⟩

theorem PF.grown {w : World} {side : Int} {v : Value} {n o g c' : Nat} {wr wr' : World} {l l' : List Int} (h : PF w side v n o g c' wr l) (hg : wr.grownBy wr' (some g)) (ho : OwnI 2 .i64 wr' (w.heap.size + 1 + 1) (.slice (some ⟨g, 0, none⟩) n c') l') : PF w side v n o g c' wr' l' := by
  obtain ⟨h1, h2, h3, h4⟩ := h.siz
  have hne : ∀ b, b ≠ g → b < wr.heap.size → wr'.heap[b]? = wr.heap[b]? := fun b hb hl => hg.block b hl (by simpa using hb)
  have e0 := hne w.heap.size (by omega) (by omega)
  have e1 := hne (w.heap.size + 1) (by omega) (by omega)
  have e2 := hne o (by omega) h4
  refine ⟨⟨(World.cell?_of_block (a := ⟨_, 0, none⟩) e0).trans h.inn.c0, (World.cell?_of_block (a := ⟨_, 1, none⟩) e0).trans h.inn.c1, (World.frozen?_of_block (a := ⟨_, 0, none⟩) e0).trans h.inn.f0, (World.frozen?_of_block (a := ⟨_, 1, none⟩) e0).trans h.inn.f1⟩,
    ⟨(World.cell?_of_block (a := ⟨_, 0, none⟩) e1).trans h.res.c0, (World.cell?_of_block (a := ⟨_, 1, none⟩) e1).trans h.res.c1, (World.cell?_of_block (a := ⟨_, 2, none⟩) e1).trans h.res.c2, (World.frozen?_of_block (a := ⟨_, 0, none⟩) e1).trans h.res.f0, (World.frozen?_of_block (a := ⟨_, 1, none⟩) e1).trans h.res.f1, (World.frozen?_of_block (a := ⟨_, 2, none⟩) e1).trans h.res.f2⟩,
    ⟨(World.cell?_of_block (a := ⟨_, 0, none⟩) e2).trans h.cpy.c0, (World.cell?_of_block (a := ⟨_, 1, none⟩) e2).trans h.cpy.c1, (World.frozen?_of_block (a := ⟨_, 0, none⟩) e2).trans h.cpy.f0, (World.frozen?_of_block (a := ⟨_, 1, none⟩) e2).trans h.cpy.f1⟩, ho, h.bel.grown hg h.bel.size (fun k hk => by cases hk; omega), h1, h2, h3, Nat.lt_of_lt_of_le h4 hg.size⟩
theorem doRow_len (side : Int) (t : List Int) (ch : Ch) : (doRow side t ch).length = t.length := by unfold doRow; split <;> simp

set_option maxRecDepth 100000 in
set_option maxHeartbeats 1000000 in
theorem pDiffDo_any (side : Int) (A : Option Addr) (c : Nat) (t0 : List Int) (A' : Option Addr) (c' : Nat) (l : List Ch) (w : World) (h : RI w w.heap.size A t0) (h' : RCh w w.heap.size A' l) (hl : t0.length ≤ 1000000000) (hl' : l.length ≤ 1000000000) (hf : ∀ n ∈ l, n.Fits) :
    Calls Try.prog 13 #[.agg #[.int .i64 side, .slice A t0.length c], .slice A' l.length c'] w fun e w' => GOut w w' (doOut side t0 l).2.1 (doOut side t0 l).2.2 (doOut side t0 l).1 e := by
  have H := Lib.hid h
  have H' := Lib.hid h'
  have HFT := Lib.hid hf
  clear h h' hf
  have HF0 := Lib.hid (FB.made w side (.slice A t0.length c))
  by_cases h4 : l.length ≤ 400
  · have hRt := fun w h => pRight_any side A c t0 w h hl
    have hg4 : decide ((400 : Int) < l.length) = false := decide_eq_false (by omega)
    cases hr : gridRight side t0
    · rw [hr] at hRt
      have HE : Hid (doOut side t0 l = (1, 0, [])) := by show _ = _; simp [doOut, h4, hr]
      rw [HE.out]
      clear hr
      go_enter Try.func13, Try.ntmps13
      go_wp2_with fail
      refine (hRt _ (H.out.below' HF0.out.bel)).mono ?_
      rintro e w1 ⟨rfl, hb1⟩
      have HF1 := Lib.hid (HF0.out.below hb1)
      clear hb1
      obtain ⟨⟨i0, i1, j0, j1⟩, ⟨c0, c1, c2, f0, f1, f2⟩, _, hz⟩ := HF1.out
      go_wp2
      refine bodyPost_ret (v := .agg #[.int .i64 0, .slice none 0 0, .int .i64 1]) (by simp [results, Try.results13, go_sem, c0, c1, c2]) rfl ?_
      exact ⟨none, 0, rfl, OwnI.nil _ _ _ _, ((HF1.out.bel.setCell (by simp) _).setCell (by simp) _).setCell (by simp) _⟩
    · rw [hr] at hRt
      by_cases h6 : l.length ≤ 64
      · have HE := Lib.hid (doOut_ok hr h6)
        have h64 := right_len hr
        obtain ⟨hs, hsq, _⟩ := right_parts hr
        have HSQ := Lib.hid hsq
        have hg6 : decide ((64 : Int) < l.length) = false := decide_eq_false (by omega)
        have hl0 : 0 < t0.length := by have : 1 ≤ side * side := (by rcases (sideOk_iff side).1 hs with rfl | rfl | rfl | rfl <;> decide); omega
        obtain ⟨b, off, rfl, hbl, _⟩ := H.out.at_ hl0
        have HCL : Hid (∀ j (h : j < t0.length), w.cell? ⟨b, off + j, none⟩ = some (.int .i64 t0[j])) := by
          show ∀ j h, _
          intro j hj
          obtain ⟨b', off', he, _, hc'⟩ := H.out.at_ hj
          simp only [Option.some.injEq, Addr.mk.injEq, and_true] at he
          obtain ⟨rfl, rfl⟩ := he
          exact hc'
        clear hr hsq
        go_enter Try.func13, Try.ntmps13
        go_wp2_with fail
        refine (hRt _ (H.out.below' HF0.out.bel)).mono ?_
        rintro e w1 ⟨rfl, hb1⟩
        have HF1 := Lib.hid (HF0.out.below hb1)
        clear hb1 HF0
        obtain ⟨⟨i0, i1, j0, j1⟩, ⟨c0, c1, c2, f0, f1, f2⟩, _, hz⟩ := HF1.out
        have hz0 : w.heap.size < w1.heap.size := by omega
        go_wp2_with fail
        have HA1 := Lib.hid ((Below.refl w1.heap.size w1).alloc (Nat.le_refl _) (.cells #[.int .i64 0, .slice none 0 0] 25)).drew
        have HN1 := Lib.hid (GB.made w1 0 (.slice none 0 0) 25).drew
        have HK := Lib.hid (pClone_any b off c t0 (w1.alloc (.cells #[.int .i64 0, .slice none 0 0] 25)).drew (Nat.lt_of_lt_of_le hbl (Nat.le_trans HF1.out.bel.size HA1.out.size)) (fun j hj => ((HF1.out.bel.trans (HA1.out.mono HF1.out.bel.size)).cell (p := ⟨b, off + j, none⟩) hbl).trans (HCL.out j hj)) hl hl0)
        have HL := Lib.hid (pClone_any b off c t0 w1.drew (Nat.lt_of_lt_of_le hbl HF1.out.bel.size) (fun j hj => (HF1.out.bel.drew.cell (p := ⟨b, off + j, none⟩) hbl).trans (HCL.out j hj)) hl hl0)
        go_region_held3 (fun w' => w'.cell? ⟨w.heap.size, 0, none⟩ = some (.int .i64 side) ∧ w'.cell? ⟨w.heap.size, 1, none⟩ = some (.slice (some ⟨b, off, none⟩) t0.length c))
          (first
            | go_keep
            | exact hk6
            | exact ⟨(World.cell?_setCell_other _ _ _ _ (by simp <;> omega)).trans ((World.cell?_setCell_other _ _ _ _ (by simp <;> omega)).trans hk6.1), (World.cell?_setCell_other _ _ _ _ (by simp <;> omega)).trans ((World.cell?_setCell_other _ _ _ _ (by simp <;> omega)).trans hk6.2)⟩)
          (first
            | (go_at_call 28; refine HK.out.mono ?_; rintro e w6 ⟨g6, c6, rfl, ho6, hb6⟩; have hk6 : w6.cell? ⟨w.heap.size, 0, none⟩ = some (.int .i64 side) ∧ w6.cell? ⟨w.heap.size, 1, none⟩ = some (.slice (some ⟨b, off, none⟩) t0.length c) := ⟨((HF1.out.inn.below HA1.out hz0).below hb6 (Nat.lt_of_lt_of_le hz0 HA1.out.size)).c0, ((HF1.out.inn.below HA1.out hz0).below hb6 (Nat.lt_of_lt_of_le hz0 HA1.out.size)).c1⟩; obtain ⟨d0, d1, e0, e1⟩ := HN1.out.below hb6 (by simp); have hz6 : w.heap.size < w6.heap.size := Nat.lt_of_lt_of_le hz0 (Nat.le_trans HA1.out.size hb6.size))
            | (go_at_call 28; refine HL.out.mono ?_; rintro e w6 ⟨g6, c6, rfl, ho6, hb6⟩; have hk6 : w6.cell? ⟨w.heap.size, 0, none⟩ = some (.int .i64 side) ∧ w6.cell? ⟨w.heap.size, 1, none⟩ = some (.slice (some ⟨b, off, none⟩) t0.length c) := ⟨(HF1.out.inn.drew.below hb6 hz0).c0, (HF1.out.inn.drew.below hb6 hz0).c1⟩; have hz6 : w.heap.size < w6.heap.size := Nat.lt_of_lt_of_le hz0 hb6.size))
        all_goals first
          | (have HP := Lib.hid (PF.after HF1.out ho6 hb6)
             rename_i hheld
             clear hheld ho6 hb6 hk6 hz6
             generalize w6.alloc (.cells #[.int .i64 side, .slice (some ⟨g6, 0, none⟩) t0.length c6] 25) = W at HP ⊢
             generalize w6.heap.size = o at HP ⊢)
          | (have HP := Lib.hid (PF.ahead HF1.out (by simpa using ho6) (by simpa using hb6))
             rename_i hheld
             clear hheld ho6 hb6 hk6 hz6 d0 d1 e0 e1
             generalize (w6.setCell ⟨w1.heap.size, 0, none⟩ (.int .i64 side)).setCell ⟨w1.heap.size, 1, none⟩ (.slice (some ⟨g6, 0, none⟩) t0.length c6) = W at HP ⊢
             generalize w1.heap.size = o at HP ⊢)
        all_goals
          clear i0 i1 j0 j1 c0 c1 c2 f0 f1 f2 HA1 HN1 HK HL
          go_wp2
          go_loopw [30] (fun i wr => ∃ (k : Nat) (t : List Int), i = .int .i64 k ∧ k ≤ l.length ∧ PF w side (.slice (some ⟨b, off, none⟩) t0.length c) t0.length o g6 c6 wr t ∧ Hid (t.length = t0.length) ∧ Hid (doAll side (l.drop k) t = doAll side l t0)) (fun i _ => l.length - (intOf i).toNat)
          case atStart => exact ⟨0, t0, rfl, Nat.zero_le _, HP.out, rfl, rfl⟩
          case round =>
            obtain ⟨k, t, rfl, hk, hp, HTL, HDO⟩ := hrel
            have HI := Lib.hid hp
            by_cases hlt : k < l.length
            · obtain ⟨bl, offl, rfl, hbll, hc⟩ := H'.out.at_ hlt
              have hc' := hc.keep (hp.bel.block bl hbll)
              have hzb : bl < wr.heap.size := Nat.lt_of_lt_of_le hbll hp.bel.size
              have HBAD := Lib.hid (fun h => do_bad (side := side) (t := t) hlt h)
              have HGOOD := Lib.hid (fun h => do_good (side := side) (t := t) hlt h)
              have hft := HFT.out _ (List.getElem_mem hlt)
              have HIA := Lib.hid (HI.out.below ((Below.refl _ _).alloc (Nat.le_refl _) (.cells #[.int .i64 l[k].x, .int .i64 l[k].y, .int .i64 l[k].o, .int .i64 l[k].n] 53)))
              have hCD := pChangeDo_any side g6 t0.length c6 (w.heap.size + 1 + 1) t l[k] _ hs HTL.out.symm HSQ.out HIA.out.own (bounds_i64 hft.1) (bounds_i64 hft.2.1)
              obtain ⟨_, _, ⟨y0, y1, _, _⟩, _, _, z1, z2, z3, z4⟩ := HI.out
              clear hc hp hft
              unfold Ch.val at hCD
              generalize l[k] = n at *
              by_cases hcd : doCode side t n = 0
              · have HV : Hid (doAll side (l.drop (k + 1)) (doRow side t n) = doAll side l t0) := by
                  have := HGOOD.out hcd
                  rw [HDO.out] at this
                  show _ = _
                  rw [doRow, if_pos hcd]
                  exact this.symm
                rw [hcd] at hCD
                obtain ⟨nx, ny, no, nn⟩ := n
                obtain ⟨d0, d1, d2, d3⟩ := hc'
                simp only at d0 d1 d2 d3 hCD HIA
                clear hcd
                go_wp2_with fail
                refine hCD.mono ?_
                rintro e w7 ⟨rfl, ho7, hg7⟩
                have HI7 := Lib.hid (HIA.out.grown hg7 ho7)
                clear ho7 hg7 hCD
                go_wp2
                go_roundw
                case rel => exact ⟨k + 1, _, by go_num, by omega, HI7.out, (by show _ = _; rw [doRow_len]; exact HTL.out), HV⟩
                case measure => simp [intOf]; omega
              · have HV : Hid (doOut side t0 l = (doCode side t n, 0, [])) := by
                  have := HBAD.out hcd
                  rw [HDO.out] at this
                  show _ = _
                  rw [HE.out, this]
                  simp [hcd]
                have hcb : (doCode side t n != 0) = true := by simpa using hcd
                generalize doCode side t n = C at *
                generalize doRow side t n = tr at *
                obtain ⟨nx, ny, no, nn⟩ := n
                obtain ⟨d0, d1, d2, d3⟩ := hc'
                simp only at d0 d1 d2 d3 hCD HIA
                go_wp2_with fail
                refine hCD.mono ?_
                rintro e w7 ⟨rfl, ho7, hg7⟩
                have HI7 := Lib.hid (HIA.out.grown hg7 ho7)
                clear ho7 hg7 hCD
                obtain ⟨c0, c1, c2, f0, f1, f2⟩ := HI7.out.res
                go_wp2
                refine bodyPost_ret (v := .agg #[.int .i64 0, .slice none 0 0, .int .i64 C]) (by simp [results, Try.results13, go_sem, c0, c1, c2]) rfl ?_
                rw [HV.out]
                exact ⟨none, 0, rfl, OwnI.nil _ _ _ _, ((HI7.out.bel.setCell (by simp) _).setCell (by simp) _).setCell (by simp) _⟩
            · have HV : Hid (doOut side t0 l = (0, side, t)) := by
                have := do_end (side := side) (t := t) (l := l) (k := k) (by omega)
                rw [HDO.out] at this
                show _ = _
                rw [HE.out, this]; rfl
              obtain ⟨_, ⟨c0, c1, c2, f0, f1, f2⟩, ⟨y0, y1, _, _⟩, _, _, z1, z2, z3, z4⟩ := HI.out
              clear hp
              go_wp2
              refine bodyPost_ret (v := .agg #[.int .i64 side, .slice (some ⟨g6, 0, none⟩) t0.length c6, .int .i64 0]) (by simp [results, Try.results13, go_sem, c0, c1, c2]) rfl ?_
              rw [HV.out]
              refine ⟨some ⟨g6, 0, none⟩, c6, by rw [HTL.out], ?_, ((HI.out.bel.setCell (by simp) _).setCell (by simp) _).setCell (by simp) _⟩
              rw [HTL.out]
              exact OwnI.lower (base := w.heap.size + 1 + 1) (by omega) (OwnI.set_below (by show w.heap.size + 1 < _; omega) _ (OwnI.set_below (by show w.heap.size + 1 < _; omega) _ (OwnI.set_below (by show w.heap.size + 1 < _; omega) _ HI.out.own)))
      · have HE : Hid (doOut side t0 l = (1, 0, [])) := by show _ = _; simp [doOut, h4, h6]
        have hg6 : decide ((64 : Int) < l.length) = true := decide_eq_true (by omega)
        rw [HE.out]
        clear hr
        go_enter Try.func13, Try.ntmps13
        go_wp2_with fail
        refine (hRt _ (H.out.below' HF0.out.bel)).mono ?_
        rintro e w1 ⟨rfl, hb1⟩
        have HF1 := Lib.hid (HF0.out.below hb1)
        clear hb1
        obtain ⟨⟨i0, i1, j0, j1⟩, ⟨c0, c1, c2, f0, f1, f2⟩, _, hz⟩ := HF1.out
        go_wp2
        refine bodyPost_ret (v := .agg #[.int .i64 0, .slice none 0 0, .int .i64 1]) (by simp [results, Try.results13, go_sem, c0, c1, c2]) rfl ?_
        exact ⟨none, 0, rfl, OwnI.nil _ _ _ _, ((HF1.out.bel.setCell (by simp) _).setCell (by simp) _).setCell (by simp) _⟩
  · have HE : Hid (doOut side t0 l = (2, 0, [])) := by show _ = _; simp [doOut, h4]
    have hg4 : decide ((400 : Int) < l.length) = true := decide_eq_true (by omega)
    rw [HE.out]
    obtain ⟨⟨i0, i1, j0, j1⟩, ⟨c0, c1, c2, f0, f1, f2⟩, _, hz⟩ := HF0.out
    go_enter Try.func13, Try.ntmps13
    go_wp2
    refine bodyPost_ret (v := .agg #[.int .i64 0, .slice none 0 0, .int .i64 2]) (by simp [results, Try.results13, go_sem]) rfl ?_
    exact ⟨none, 0, rfl, OwnI.nil _ _ _ _, by first | exact ((HF0.out.bel.setCell (by simp) _).setCell (by simp) _).setCell (by simp) _ | exact ((Below.refl _ _).alloc (Nat.le_refl _) _).alloc (by simp) _⟩
end Go.Proofs.Ythhadbojepcdjaa
