/- The model's ways: least sums. -/
import Derived.Test.YtmjbefjkkncjlaaWyE
import Derived.Deep.LoopGhost
import Derived.Deep.CutRange
import Derived.Deep.RegionHeld3
namespace Go.Proofs.Ytmjbefjkkncjlaa
open Go.RowKit
set_option linter.unusedVariables false
set_option linter.unusedSimpArgs false

/-- While the row of sums is laid. -/
structure D0 (w : World) (side : Int) (A : Option Addr) (c : Nat) (l : List Int) (fx fy : Int) (v : Value) (d : List Int) (wr : World) : Prop where
  g : GB wr w.heap.size side (.slice A l.length c)
  f : PlB wr (w.heap.size + 1) fx fy
  dd : OwnI 2 .i64 wr (w.heap.size + 1 + 1) v d
  bel : Below w.heap.size w wr
  siz : w.heap.size + 1 + 1 ≤ wr.heap.size
theorem D0.step {w wr wr' : World} {side : Int} {A : Option Addr} {c : Nat} {l : List Int} {fx fy : Int} {v v' : Value} {d d' : List Int} (h : D0 w side A c l fx fy v d wr) (hb : Below (w.heap.size + 1 + 1) wr wr') (ho : OwnI 2 .i64 wr' (w.heap.size + 1 + 1) v' d') : D0 w side A c l fx fy v' d' wr' :=
  ⟨h.g.below hb (by omega), h.f.below hb (by omega), ho, h.bel.trans (hb.mono (by omega)), Nat.le_trans h.siz hb.size⟩
theorem D0.below {w wr wr' : World} {side : Int} {A : Option Addr} {c : Nat} {l : List Int} {fx fy : Int} {v : Value} {d : List Int} (h : D0 w side A c l fx fy v d wr) (hb : Below wr.heap.size wr wr') : D0 w side A c l fx fy v d wr' := h.step (hb.mono h.siz) (h.dd.keep hb)

theorem DM.go {side : Int} {l : List Int} {s a : Nat} {done : Nat → Prop} {d : List Int} {q : List Pl} {ux uy : Int} (hr : gridRight side l = true) (h : DM side l s a done d q) (hou : Go.Proofs.Ytmjbefjkkncjlaa.opn side l ux uy = true) (hst : Stp side l a (pn side ux uy)) (hne : a ≠ pn side ux uy) (hlt : dk d (pn side ux uy) < 0 ∨ dk d a + cst l a (pn side ux uy) < dk d (pn side ux uy)) :
    DM side l s a (fun j => done j ∨ j = pn side ux uy) (d.set (pn side ux uy) (dk d a + cst l a (pn side ux uy))) (q ++ [⟨ux, uy⟩]) ∧ lft side l (d.set (pn side ux uy) (dk d a + cst l a (pn side ux uy))) (q ++ [⟨ux, uy⟩]) < lft side l d q := by
  obtain ⟨h1, h2⟩ := h.on.go (gr_grid hr) hst hne hlt
  refine ⟨⟨by rw [List.map_append]; exact h1, fun p hp => ?_⟩, by unfold lft; rw [List.map_append]; exact h2⟩
  rcases List.mem_append.1 hp with hp | hp
  · exact h.opn p hp
  · simp only [List.mem_singleton] at hp
    subst hp
    exact hou
theorem DM.skip {side : Int} {l : List Int} {s a b : Nat} {done : Nat → Prop} {d : List Int} {q : List Pl} (h : DM side l s a done d q) (hb : 0 ≤ dk d b) (hle : dk d b ≤ dk d a + cst l a b) : DM side l s a (fun j => done j ∨ j = b) d q := ⟨h.on.skip hb hle, h.opn⟩
theorem done_step (side : Int) (Ls : List Pl) (i : Nat) (hi : i < Ls.length) (ux uy : Int) (hu : Ls[i] = ⟨ux, uy⟩) : (fun j => (∃ t, t < i ∧ ∃ ht : t < Ls.length, j = pn side Ls[t].x Ls[t].y) ∨ j = pn side ux uy) = (fun j => ∃ t, t < i + 1 ∧ ∃ ht : t < Ls.length, j = pn side Ls[t].x Ls[t].y) := by
  funext j
  apply propext
  constructor
  · rintro (⟨t, h1, h2, h3⟩ | h)
    · exact ⟨t, by omega, h2, h3⟩
    · exact ⟨i, by omega, hi, by rw [hu]; exact h⟩
  · rintro ⟨t, h1, h2, h3⟩
    by_cases ht : t < i
    · exact .inl ⟨t, ht, h2, h3⟩
    · obtain rfl : t = i := by omega
      rw [hu] at h3
      exact .inr h3

set_option maxRecDepth 100000 in
set_option maxHeartbeats 4000000 in
theorem mL05Dists_any (side fx fy : Int) (A : Option Addr) (c : Nat) (l : List Int) (d0 : List Int) (w : World) (h : RI w w.heap.size A l) (hr : gridRight side l = true) (ho : opn side l fx fy = true) (hd : GDist side l fx fy d0) :
    Calls Try.prog 30 #[.agg #[.int .i64 side, .slice A l.length c], .agg #[.int .i64 fx, .int .i64 fy]] w fun e w' => ∃ A' c', e = .returned (.slice A' d0.length c') ∧ OwnI 2 .i64 w' w.heap.size (.slice A' d0.length c') d0 ∧ Below w.heap.size w w' := by
  obtain ⟨i1, hi, hy0, hy1, hy2⟩ := info_parts Try.infoInt
  obtain ⟨i0, hin, hz0, hz1, hz2⟩ := info_parts Try.infoPl
  have HD := Lib.hid hd
  have HR := Lib.hid hr
  have HO := Lib.hid ho
  have HRI := Lib.hid h
  have hl64 := right_len hr
  have hgin := (opn_parts hr ho).1
  have hA0 := fun A n c w => mAt5_any hr hgin A n c w
  have hpl := (pn_lt hr hgin).1
  have hs8 := side_bound (right_parts hr).1
  obtain ⟨W, HW⟩ : ∃ W, W = (((w.alloc (.cells #[.int .i64 side, .slice A l.length c] 25)).alloc (.cells #[.int .i64 fx, .int .i64 fy] 27)).alloc (.cells #[] 2)) := ⟨_, rfl⟩
  have H0 : Hid (D0 w side A c l fx fy (.slice (some ⟨w.heap.size + 1 + 1, 0, none⟩) 0 0) [] W) := by
    refine ⟨by rw [HW]; exact ⟨by simp [go_sem], by simp [go_sem], by simp [go_sem], by simp [go_sem]⟩, by rw [HW]; exact ⟨by simp [go_sem], by simp [go_sem]⟩, ?_, by rw [HW]; exact bel_T (bel_A _ _) (bel_T (bel_A _ _) (bel_A _ _)), by rw [HW]; simp⟩
    rw [HW]
    have := OwnI.lit (e := 2) (k := .i64) (w := (w.alloc (.cells #[.int .i64 side, .slice A l.length c] 25)).alloc (.cells #[.int .i64 fx, .int .i64 fy] 27)) (base := w.heap.size + 1 + 1) [] (by simp) (by simp)
    simpa using this
  clear h hr ho hd hgin
  go_enter Try.func30, Try.ntmps30
  go_wp2_with fail
  rw [← HW]
  clear HW
  go_loopw [5, 6] (fun v i wr => ∃ (k : Nat) (A2 : Option Addr) (c2 : Nat), i = .int .i64 k ∧ k ≤ l.length ∧ v = .slice A2 k c2 ∧ D0 w side A c l fx fy (.slice A2 k c2) (List.replicate k (-1)) wr) (fun _ i _ => l.length - (intOf i).toNat)
  case atStart => exact ⟨0, _, _, rfl, Nat.zero_le _, rfl, H0.out⟩
  case round =>
    obtain ⟨k, A2, c2, rfl, hk, rfl, hd0⟩ := hrel
    have HK := Lib.hid hd0
    clear H0 hd0
    obtain ⟨g0, g1, _, _⟩ := HK.out.g
    have hsz := HK.out.siz
    have hown := HK.out.dd
    have hlen := List.length_replicate (n := k) (a := (-1 : Int))
    by_cases hlt : k < l.length
    · go_wp2_with (at_builtin; refine append_int Try.underlying23 hi hy0 hy1 hy2 (by decide) rfl _ _ rfl (w.heap.size + 1 + 1) (.slice A2 k c2) _ (-1) wr hown (by simp [Act.eval]) (by simp [Act.eval]) (by omega) hsz ?_; intro v' w1 hown1 hb1; obtain ⟨A', c', rfl⟩ := hown1.form; have HW1 := Lib.hid (HK.out.step hb1 hown1); clear hown1 hb1)
      have el : List.replicate k (-1 : Int) ++ [-1] = List.replicate (k + 1) (-1) := (List.replicate_succ' ..).symm
      have HW2 := HW1.out
      rw [el, List.length_replicate] at HW2
      have HW3 := Lib.hid HW2
      clear HW2 HW1 hown g0 g1
      go_roundw
      case rel => exact ⟨k + 1, A', c', by go_num, by omega, rfl, HW3.out⟩
      case measure => simp [intOf] <;> omega
    · obtain rfl : k = l.length := by omega
      obtain ⟨f0, f1⟩ := HK.out.f
      obtain ⟨gd, rfl, hgd1, hgd2, hcs, hfs⟩ := hown.at_ (j := pn side fx fy) (by rw [List.length_replicate]; exact hpl)
      clear hown hcs hfs
      have hplI : ((pn side fx fy : Nat) : Int) < (l.length : Int) := by omega
      have HPL := Lib.hid hpl
      go_wp2_with fail
      refine (hA0 _ _ _ _).mono ?_
      rintro e w1 ⟨rfl, hb1⟩
      have HK1 := Lib.hid (HK.out.below hb1)
      clear hb1 HK f0 f1 g0 g1
      obtain ⟨f0, f1⟩ := HK1.out.f
      obtain ⟨gd', e', _, _, hcs, hfs⟩ := HK1.out.dd.at_ (j := pn side fx fy) (by rw [List.length_replicate]; exact HPL.out)
      cases e'
      have HS1 : Hid (DS w side A c l gd c2 ((List.replicate l.length (-1)).set (pn side fx fy) 0) w1.heap.size 0 1 [⟨fx, fy⟩] ((w1.setCell ⟨gd, pn side fx fy, none⟩ (.int .i64 0)).alloc (.cells #[.int .i64 fx, .int .i64 fy] 27))) := by
        have hz := HK1.out.siz
        have hlt1 := (World.ownsRow.lt HK1.out.dd gd rfl).2
        have hst := (HK1.out.dd.store (j := pn side fx fy) 0).1
        have hbs : Below w.heap.size w1 (w1.setCell ⟨gd, pn side fx fy, none⟩ (.int .i64 0)) := (Below.refl _ _).setCell (by show _ ≤ gd; omega) _
        have hgs := setCell_by w1 ⟨gd, pn side fx fy, none⟩ (.int .i64 0)
        have hnew := PlB.made (w1.setCell ⟨gd, pn side fx fy, none⟩ (.int .i64 0)) fx fy 27
        have ez : (w1.setCell ⟨gd, pn side fx fy, none⟩ (.int .i64 0)).heap.size = w1.heap.size := by simp
        rw [ez] at hnew
        refine ⟨(HK1.out.g.at5 (hgs.block _ (by omega) fun e => by have e' : w.heap.size = gd := Option.some.inj e; omega)).below (bel_A _ _) (by rw [ez]; omega), ?_, ⟨hz, by simp, Nat.le_refl _, by simp [maxLen], ?_, ?_⟩, by omega, (HK1.out.bel.trans hbs).trans ((bel_A _ _).mono (by rw [ez]; omega)), by rw [alloc_size, ez]; omega⟩
        · rw [List.length_set, List.length_replicate]
          exact OwnI.keep hst (bel_A _ _)
        · intro j hj
          obtain rfl : j = 0 := by simpa using hj
          exact ⟨by simpa using hnew.c0, by simpa using hnew.c1⟩
        · intro j hj
          simp at hj
      have HM1 : Hid (DM side l (pn side fx fy) (pn side fx fy) (fun _ => True) ((List.replicate l.length (-1)).set (pn side fx fy) 0) [⟨fx, fy⟩]) := ⟨OnW.start (gr_grid HR.out) HPL.out, by intro p hp; simp at hp; subst hp; exact HO.out⟩
      clear HK1
      have hngd : gd ≠ w.heap.size + 1 := by omega
      have hngd2 : w.heap.size + 1 ≠ gd := by omega
      go_wp2
      generalize (w1.setCell ⟨gd, pn side fx fy, none⟩ (.int .i64 0)).alloc (.cells #[.int .i64 fx, .int .i64 fy] 27) = w2 at HS1 ⊢
      generalize w1.heap.size = b1 at HS1 ⊢
      generalize (List.replicate l.length (-1)).set (pn side fx fy) 0 = dA at HS1 HM1
      clear hcs hfs f0 f1 hngd hngd2 hplI hgd1 hgd2
      go_loopg [7] (lft side l dA [⟨fx, fy⟩]) (fun K v wr => ∃ (d : List Int) (b off cap : Nat) (q : List Pl) (a : Nat) (done : Nat → Prop), v = .slice (some ⟨b, off, none⟩) q.length cap ∧ DS w side A c l gd c2 d b off cap q wr ∧ Hid (DM side l (pn side fx fy) a done d q ∧ (∀ j, Stp side l a j → done j) ∧ lft side l d q ≤ K))
      case atStart => exact ⟨dA, b1, 0, 1, [⟨fx, fy⟩], _, _, rfl, HS1.out, HM1.out, fun _ _ => trivial, Nat.le_refl _⟩
      case round =>
        obtain ⟨d, b, off, cap, q, a, done, rfl, hds, HMM⟩ := hrel
        have HS := Lib.hid hds
        clear HS1 HM1 hds
        have HDL : Hid (d.length = l.length) := HMM.out.1.on.len
        cases q with
        | nil =>
          have HE : Hid (d = d0) := IsD.one (gr_grid HR.out) (HMM.out.1.on.done HMM.out.2.1) HD.out
          go_wp2
          go_ret
          have e1 := HE.out
          have e2 := HDL.out
          subst e1
          rw [e2]
          refine ⟨_, _, rfl, ?_, HS.out.bel⟩
          have := HS.out.dd
          rw [e2] at this
          exact OwnI.lower (by omega) this
        | cons p q =>
          obtain ⟨px, py⟩ := p
          have HOP : Hid (opn side l px py = true) := HMM.out.1.opn ⟨px, py⟩ (by simp)
          have hq0 := HS.out.qq.at_ 0 (by simp)
          simp only [List.getElem_cons_zero, Nat.zero_mul, Nat.add_zero] at hq0
          obtain ⟨p0, p1⟩ := hq0
          have hle := HS.out.qq.le
          simp only [List.length_cons] at hle p0 p1
          have hgi := (opn_parts HR.out HOP.out).1
          have hqI : (0 : Int) < ((q.length + 1 : Nat) : Int) := by omega
          have HQT : Hid (∃ off2 cap2, (if cap = 1 then (off, 0) else (off + 2, cap - 1)) = (off2, cap2) ∧ DS w side A c l gd c2 d b off2 cap2 q wr) := by
            by_cases hc1 : cap = 1
            · refine ⟨off, 0, by rw [if_pos hc1], ?_⟩
              obtain rfl : q = [] := by cases q; rfl; simp at hle; omega
              exact ⟨HS.out.g, HS.out.dd, ⟨HS.out.qq.lo, HS.out.qq.lt, Nat.le_refl _, Nat.zero_le _, (fun j hj => by simp at hj), (fun j hj => by simp at hj)⟩, HS.out.ne, HS.out.bel, HS.out.siz⟩
            · exact ⟨off + 2, cap - 1, by rw [if_neg hc1], HS.out.tail⟩
          obtain ⟨g0, g1, _, _⟩ := HS.out.g
          have hz := HS.out.siz
          have hzw : w.heap.size < wr.heap.size := by omega
          simp only [List.length_cons]
          go_upto_region 10 with fail
          have HPB := Lib.hid (PlB.made wr px py 27)
          have HQA : Hid (∃ off2 cap2, (if cap = 1 then (off, 0) else (off + 2, cap - 1)) = (off2, cap2) ∧ DS w side A c l gd c2 d b off2 cap2 q (wr.alloc (.cells #[.int .i64 px, .int .i64 py] 27))) := by
            obtain ⟨o2, k2, e2, h2⟩ := HQT.out
            exact ⟨o2, k2, e2, h2.below (bel_A _ _)⟩
          go_cut [7] from 31 to 91 (fun v wx => ∃ off2 cap2, v = .slice (some ⟨b, off2, none⟩) q.length cap2 ∧ DS w side A c l gd c2 d b off2 cap2 q wx ∧ wx = wr.alloc (.cells #[.int .i64 px, .int .i64 py] 27))
          case first =>
            obtain ⟨o2, k2, e2, h2⟩ := HQA.out
            by_cases hc1 : cap = 1
            · rw [if_pos hc1] at e2
              cases e2
              have H2 := Lib.hid h2
              clear h2
              go_wp2_with fail
              all_goals
                go_meet
                exact ⟨_, _, rfl, H2.out, rfl⟩
            · rw [if_neg hc1] at e2
              cases e2
              have H2 := Lib.hid h2
              clear h2
              have hc2 : ¬ cap - 1 = 0 := by omega
              go_wp2_with fail
              all_goals
                go_meet
                exact ⟨_, _, rfl, H2.out, rfl⟩
          obtain ⟨off2, cap2, rfl, hds2, hwc⟩ := hcut
          have HS2 := Lib.hid hds2
          have HPB2 : Hid (PlB wc wr.heap.size px py) := by rw [hwc]; exact HPB.out
          have hlz : wr.heap.size < wc.heap.size := by rw [hwc]; simp
          have hgdw := HS.out.lo.2
          have hbw := HS.out.qq.lt
          clear hds2 hwc HPB HQA HQT g0 g1 p0 p1 HS
          have hBs := fun w h => mBeside_any side px py A c l w h HR.out hgi
          obtain ⟨g0, g1, _, _⟩ := HS2.out.g
          obtain ⟨p0, p1⟩ := HPB2.out
          go_wp2_with fail
          refine (hBs _ ((HRI.out.below HS2.out.bel).mono HS2.out.bel.size)).mono ?_
          rintro e w5 ⟨A9, c9, rfl, o9, hb5⟩
          have hbel5 := HS2.out.bel
          have HI0 : Hid (IS w side A c l gd c2 d b off2 cap2 q wr.heap.size px py A9 (bes side l px py) w5) := by
            refine ⟨HS2.out.below hb5, HPB2.out.below hb5 hlz, ⟨by omega, by omega, Nat.lt_of_lt_of_le hlz hb5.size⟩, ?_⟩
            by_cases hne : bes side l px py = []
            · exact .inl hne
            · have hpos : 0 < (bes side l px py).length := List.length_pos_iff.2 hne
              obtain ⟨bl, e9, hlo, hlt, _, _⟩ := o9.at_ (j := 0) hpos
              refine .inr ⟨bl, e9, by omega, by omega, hlt, fun j hj => ?_⟩
              obtain ⟨bl2, e10, _, _, hc, _⟩ := o9.at_ (j := j) hj
              rw [e9] at e10
              cases e10
              exact hc
          have HM0 : Hid (DM side l (pn side fx fy) (pn side px py) (fun _ => False) d q ∧ lft side l d q < gk) := by
            obtain ⟨hm, hdn, hle2⟩ := HMM.out
            have hon := hm.on
            simp only [List.map_cons] at hon
            obtain ⟨h1, h2⟩ := hon.next hdn
            exact ⟨⟨h1, fun p hp => hm.opn p (by simp [hp])⟩, by unfold lft at hle2 ⊢; simp only [List.map_cons] at hle2; omega⟩
          have HBM : Hid (∀ t (ht : t < (bes side l px py).length), opn side l ((bes side l px py)[t]).x ((bes side l px py)[t]).y = true ∧ Stp side l (pn side px py) (pn side ((bes side l px py)[t]).x ((bes side l px py)[t]).y) ∧ pn side px py ≠ pn side ((bes side l px py)[t]).x ((bes side l px py)[t]).y) := by
            intro t ht
            obtain ⟨m1, m2⟩ := bes_mem.1 (List.getElem_mem ht)
            exact ⟨m2, ⟨px, py, _, _, HOP.out, m2, m1, rfl, rfl⟩, abt_ne HR.out HOP.out m2 m1⟩
          have HBA : Hid (∀ j, Stp side l (pn side px py) j → ∃ t, t < (bes side l px py).length ∧ ∃ ht : t < (bes side l px py).length, j = pn side ((bes side l px py)[t]).x ((bes side l px py)[t]).y) := by
            intro j hj
            obtain ⟨u, v, h1, h2, rfl⟩ := stp_to HR.out HOP.out hj
            obtain ⟨t, ht, e1⟩ := List.getElem_of_mem (bes_mem.2 (show ((⟨u, v⟩ : Pl).x, (⟨u, v⟩ : Pl).y) ∈ abt px py ∧ opn side l (⟨u, v⟩ : Pl).x (⟨u, v⟩ : Pl).y = true from ⟨h2, h1⟩))
            exact ⟨t, ht, ht, by rw [e1]⟩
          have hLl : (bes side l px py).length ≤ 4 := by have := besTo_len side l px py 4; exact this
          clear o9 hb5 HS2 HPB2 hBs g0 g1 p0 p1 HMM hbel5 hlz hgdw hbw hz hzw hle hqI
          generalize hLs : bes side l px py = Ls at *
          generalize hba : wr.heap.size = ba at *
          clear hLs hba
          go_wp2_with fail
          go_loopg [7, 10] Ls.length (fun K v i10 wr => ∃ (i : Nat) (d' : List Int) (b' off' cap' : Nat) (q' : List Pl), K = Ls.length - i ∧ i10 = .int .i64 i ∧ i ≤ Ls.length ∧ v = .slice (some ⟨b', off', none⟩) q'.length cap' ∧ IS w side A c l gd c2 d' b' off' cap' q' ba px py A9 Ls wr ∧ Hid (DM side l (pn side fx fy) (pn side px py) (fun j => ∃ t, t < i ∧ ∃ ht : t < Ls.length, j = pn side Ls[t].x Ls[t].y) d' q' ∧ lft side l d' q' < gk))
          case atStart =>
            refine ⟨0, d, b, off2, cap2, q, by simp, rfl, Nat.zero_le _, rfl, HI0.out, ?_, HM0.out.2⟩
            have := HM0.out.1
            have ef : (fun _ : Nat => False) = (fun j => ∃ t, t < 0 ∧ ∃ ht : t < Ls.length, j = pn side Ls[t].x Ls[t].y) := by funext j; simp
            rw [ef] at this
            exact this
          case round =>
            obtain ⟨i, d', b', off', cap', q', rfl, rfl, hi', rfl, his, HMI⟩ := hrel
            have HI := Lib.hid his
            clear HI0 HM0 his
            by_cases hlt : i < Ls.length
            · have hiI : (i : Int) < (Ls.length : Int) := by omega
              obtain ⟨hou, hst, hpne⟩ := HBM.out i hlt
              obtain ⟨bl, e9, hpt⟩ := HI.out.at_ hlt
              subst e9
              have HRW : Hid (∀ v d b off cap q, IS w side A c l gd c2 d b off cap q ba px py (some ⟨bl, 0, none⟩) Ls v → PlAt v bl (i * 2) Ls[i]) := by
                intro v d b off cap q hh
                obtain ⟨bl2, e10, h10⟩ := hh.at_ hlt
                cases e10
                exact h10
              generalize hu : Ls[i] = pu at hou hst hpne hpt HRW
              obtain ⟨ux, uy⟩ := pu
              have HDS := Lib.hid (done_step side Ls i hlt ux uy hu)
              simp only at hou hst hpne
              have HOU := Lib.hid hou; have HST := Lib.hid hst; have HNE := Lib.hid hpne
              have hgu := (opn_parts HR.out hou).1
              have hAp := fun A n c w => mAt5_any HR.out hgi A n c w
              have hAu := fun A n c w => mAt5_any HR.out hgu A n c w
              have hSt := fun w h => mStep5_any side px py ux uy A c l w h HR.out hgi hgu
              have hlp := (pn_lt HR.out hgi).1
              have hlu := (pn_lt HR.out hgu).1
              have hlpI : ((pn side px py : Nat) : Int) < (l.length : Int) := by omega
              have hluI : ((pn side ux uy : Nat) : Int) < (l.length : Int) := by omega
              have HDL2 : Hid (d'.length = l.length) := HMI.out.1.on.len
              have HDP : Hid (∀ v b off cap q, IS w side A c l gd c2 d' b off cap q ba px py (some ⟨bl, 0, none⟩) Ls v → (v.cell? ⟨gd, pn side px py, none⟩ = some (.int .i64 (dk d' (pn side px py))) ∧ v.cell? ⟨gd, pn side ux uy, none⟩ = some (.int .i64 (dk d' (pn side ux uy))) ∧ v.frozen? ⟨gd, pn side ux uy, none⟩ = false)) := by
                intro v b off cap q hh
                have e1 := HDL2.out
                obtain ⟨g1, q1, _, _, hc1, _⟩ := hh.ds.dd.at_ (j := pn side px py) (by omega)
                cases q1
                obtain ⟨g2, q2, _, _, hc2, hf2⟩ := hh.ds.dd.at_ (j := pn side ux uy) (by omega)
                cases q2
                rw [dk_lt (by omega), dk_lt (by omega)]
                exact ⟨hc1, hc2, hf2⟩
              have hxa0 := HMI.out.1.on.at_.2
              have hxa1 := HMI.out.1.on.bound (pn side px py)
              have hcl := (gr_grid HR.out).low _ _ hst
              have hch := (gr_grid HR.out).high _ _ hst
              have HMG := Lib.hid (fun hlt => HMI.out.1.go HR.out HOU.out HST.out HNE.out hlt)
              have HMK := Lib.hid (fun hb hle => HMI.out.1.skip (b := pn side ux uy) hb hle)
              have HQL := HMI.out.1.len hl64
              have HLF := Lib.hid HMI.out.2
              generalize dk d' (pn side px py) = xa at *
              generalize dk d' (pn side ux uy) = xu at *
              generalize cst l (pn side px py) (pn side ux uy) = cc at *
              have hwr : IntKind.i64.wrap (xa + cc) = xa + cc := IntWalk.i64_in _ (by omega)
              have HSI : Hid (∀ w', IS w side A c l gd c2 d' b' off' cap' q' ba px py (some ⟨bl, 0, none⟩) Ls w' → w'.cell? ⟨w.heap.size, 0, none⟩ = some (.int .i64 side) ∧ w'.cell? ⟨w.heap.size, 1, none⟩ = some (.slice A l.length c) ∧ w'.cell? ⟨ba, 0, none⟩ = some (.int .i64 px) ∧ w'.cell? ⟨ba, 1, none⟩ = some (.int .i64 py) ∧ w'.cell? ⟨bl, i * 2, none⟩ = some (.int .i64 ux) ∧ w'.cell? ⟨bl, i * 2 + 1, none⟩ = some (.int .i64 uy) ∧ w'.cell? ⟨gd, pn side px py, none⟩ = some (.int .i64 xa)) := by
                intro w' hh
                have hp := HRW.out _ _ _ _ _ _ hh
                exact ⟨hh.ds.g.c0, hh.ds.g.c1, hh.pb.c0, hh.pb.c1, hp.c0, hp.c1, (HDP.out _ _ _ _ _ hh).1⟩
              clear hou hst hpne hpt hu hlp hlu hgu HBM
              obtain ⟨k1, k2, k3, k4, k5, k6, k7⟩ := HSI.out _ HI.out
              go_upto_region 15 with fail
              go_cut [11] from 42 to 91 (fun n11 wx => n11 = .int .i64 (xa + cc) ∧ IS w side A c l gd c2 d' b' off' cap' q' ba px py (some ⟨bl, 0, none⟩) Ls wx)
              case first =>
                have q0 := HI.out.below (bel_D _)
                have hkeep := HSI.out _ q0
                clear k1 k2 k3 k4 k5 k6 k7
                go_region_held3 (fun w' => w'.cell? ⟨w.heap.size, 0, none⟩ = some (.int .i64 side) ∧ w'.cell? ⟨w.heap.size, 1, none⟩ = some (.slice A l.length c) ∧ w'.cell? ⟨ba, 0, none⟩ = some (.int .i64 px) ∧ w'.cell? ⟨ba, 1, none⟩ = some (.int .i64 py) ∧ w'.cell? ⟨bl, i * 2, none⟩ = some (.int .i64 ux) ∧ w'.cell? ⟨bl, i * 2 + 1, none⟩ = some (.int .i64 uy) ∧ w'.cell? ⟨gd, pn side px py, none⟩ = some (.int .i64 xa))
                  (first | (with_reducible exact hkeep) | go_keep)
                  (first
                    | (go_at_call 33; have _c := q1; clear _c; refine (hSt v1 ((HRI.out.below q1.ds.bel).mono q1.ds.bel.size)).mono ?_; rintro e v2 ⟨rfl, hb⟩; clear hkeep; have q2 := q1.below hb; have hkeep := HSI.out _ q2; clear hb)
                    | (go_at_call 31; refine (hAp _ _ _ wr.drew).mono ?_; rintro e v1 ⟨rfl, hb⟩; clear hkeep; have q1 := q0.below hb; have hkeep := HSI.out _ q1; clear hb))
                all_goals
                  have Q2 := Lib.hid q2
                  clear hkeep q0 q1 q2
                  go_wp2_with fail
                  go_meet
                  exact ⟨rfl, Q2.out⟩
              obtain ⟨rfl, his6⟩ := hcut
              have HI6 := Lib.hid his6
              clear HI his6 k1 k2 k3 k4 k5 k6 k7
              generalize wc = w6 at *
              obtain ⟨k1, k2, k3, k4, k5, k6, k7⟩ := HSI.out _ HI6.out
              go_upto_region 16 with fail
              go_cut [12] from 42 to 91 (fun n12 wx => n12 = .int .i64 (pn side ux uy : Int) ∧ IS w side A c l gd c2 d' b' off' cap' q' ba px py (some ⟨bl, 0, none⟩) Ls wx)
              case first =>
                have q0 := HI6.out.below (bel_D _)
                have hkeep := HSI.out _ q0
                clear k1 k2 k3 k4 k5 k6 k7
                go_region_held3 (fun w' => w'.cell? ⟨w.heap.size, 0, none⟩ = some (.int .i64 side) ∧ w'.cell? ⟨w.heap.size, 1, none⟩ = some (.slice A l.length c) ∧ w'.cell? ⟨ba, 0, none⟩ = some (.int .i64 px) ∧ w'.cell? ⟨ba, 1, none⟩ = some (.int .i64 py) ∧ w'.cell? ⟨bl, i * 2, none⟩ = some (.int .i64 ux) ∧ w'.cell? ⟨bl, i * 2 + 1, none⟩ = some (.int .i64 uy) ∧ w'.cell? ⟨gd, pn side px py, none⟩ = some (.int .i64 xa))
                  (first | (with_reducible exact hkeep) | go_keep)
                  (first
                    | (go_at_call 31; refine (hAu _ _ _ w6.drew).mono ?_; rintro e v1 ⟨rfl, hb⟩; clear hkeep; have q1 := q0.below hb; have hkeep := HSI.out _ q1; clear hb))
                all_goals
                  have Q2 := Lib.hid q1
                  clear hkeep q0 q1
                  go_wp2_with fail
                  go_meet
                  exact ⟨rfl, Q2.out⟩
              obtain ⟨rfl, his7⟩ := hcut
              have HI7 := Lib.hid his7
              clear HI6 his7 k1 k2 k3 k4 k5 k6 k7
              generalize wc = w7 at *
              obtain ⟨k7, k8, kf⟩ := HDP.out _ _ _ _ _ HI7.out
              by_cases h1 : xu < 0
              · have hq1 : decide (xu < 0) = true := decide_eq_true h1
                have hM := HMG.out (.inl h1)
                have HM8 := Lib.hid hM
                have HI8 := Lib.hid (HI7.out.store (pn side ux uy) (xa + cc))
                clear hM
                go_upto_region 19 with fail
                generalize w7.setCell ⟨gd, pn side ux uy, none⟩ (.int .i64 (xa + cc)) = w8 at HI8 ⊢
                clear k7 k8 kf HI7
                obtain ⟨p0, p1⟩ := HRW.out _ _ _ _ _ _ HI8.out
                have HIA := Lib.hid (HI8.out.below (bel_A w8 (.cells #[.int .i64 ux, .int .i64 uy] 27)))
                have HNA : Hid (PlAt (w8.alloc (.cells #[.int .i64 ux, .int .i64 uy] 27)) w8.heap.size 0 ⟨ux, uy⟩) := ⟨by simp [go_sem], by simp [go_sem]⟩
                go_wp2_with (at_builtin; refine wpList_append_q hin hz0 hz1 hz2 rfl _ _ rfl (w.heap.size + 1 + 1) b' off' cap' q' ⟨ux, uy⟩ _ w8.heap.size HIA.out.ds.qq (by simp [Act.eval]) (by simp [Act.eval]) HNA.out HQL ?_; intro b9 off9 cap9 w9 hq9 hg9 hl9; have HI9 := Lib.hid (HIA.out.push hq9 hg9 hl9); clear hq9 hg9 hl9)
                clear p0 p1
                try go_wp2
                go_roundg (Ls.length - (i + 1))
                case measure => omega
                case rel => exact ⟨i + 1, _, b9, off9, cap9, q' ++ [⟨ux, uy⟩], rfl, by go_num, by omega, by simp, HI9.out, by rw [← HDS.out]; exact HM8.out.1, Nat.lt_trans HM8.out.2 HLF.out⟩
              · have hq1 : decide (xu < 0) = false := decide_eq_false h1
                by_cases h2 : xa + cc < xu
                · have hq2 : decide (xa + cc < xu) = true := decide_eq_true h2
                  have hM := HMG.out (.inr h2)
                  have HM8 := Lib.hid hM
                  have HI8 := Lib.hid (HI7.out.store (pn side ux uy) (xa + cc))
                  clear hM
                  go_upto_region 19 with fail
                  generalize w7.setCell ⟨gd, pn side ux uy, none⟩ (.int .i64 (xa + cc)) = w8 at HI8 ⊢
                  clear k7 k8 kf HI7
                  obtain ⟨p0, p1⟩ := HRW.out _ _ _ _ _ _ HI8.out
                  have HIA := Lib.hid (HI8.out.below (bel_A w8 (.cells #[.int .i64 ux, .int .i64 uy] 27)))
                  have HNA : Hid (PlAt (w8.alloc (.cells #[.int .i64 ux, .int .i64 uy] 27)) w8.heap.size 0 ⟨ux, uy⟩) := ⟨by simp [go_sem], by simp [go_sem]⟩
                  go_wp2_with (at_builtin; refine wpList_append_q hin hz0 hz1 hz2 rfl _ _ rfl (w.heap.size + 1 + 1) b' off' cap' q' ⟨ux, uy⟩ _ w8.heap.size HIA.out.ds.qq (by simp [Act.eval]) (by simp [Act.eval]) HNA.out HQL ?_; intro b9 off9 cap9 w9 hq9 hg9 hl9; have HI9 := Lib.hid (HIA.out.push hq9 hg9 hl9); clear hq9 hg9 hl9)
                  clear p0 p1
                  try go_wp2
                  go_roundg (Ls.length - (i + 1))
                  case measure => omega
                  case rel => exact ⟨i + 1, _, b9, off9, cap9, q' ++ [⟨ux, uy⟩], rfl, by go_num, by omega, by simp, HI9.out, by rw [← HDS.out]; exact HM8.out.1, Nat.lt_trans HM8.out.2 HLF.out⟩
                · have hq2 : decide (xa + cc < xu) = false := decide_eq_false h2
                  have HM8 := Lib.hid (HMK.out (by omega) (by omega))
                  go_wp2
                  go_roundg (Ls.length - (i + 1))
                  case measure => omega
                  case rel => exact ⟨i + 1, d', b', off', cap', q', rfl, by go_num, by omega, rfl, HI7.out, by rw [← HDS.out]; exact HM8.out, HLF.out⟩
            · obtain rfl : i = Ls.length := by omega
              go_wp2
              go_roundg (lft side l d' q')
              case measure => exact HMI.out.2
              case rel => exact ⟨d', b', off', cap', q', pn side px py, _, rfl, HI.out.ds, HMI.out.1, HBA.out, Nat.le_refl _⟩
end Go.Proofs.Ytmjbefjkkncjlaa
