/- The program's turned maps. -/
import Derived.Test.YtoobkajilbmdhaaTuM
import Derived.Test.YtoobkajilbmdhaaPgF
import Derived.BigQuiet
namespace Go.Proofs.Ytoobkajilbmdhaa
open Go.RowKit
set_option linter.unusedVariables false
set_option linter.unusedSimpArgs false

set_option maxRecDepth 100000 in
set_option maxHeartbeats 1000000 in
theorem pFrom_any (n how x y : Nat) (hn : n = 1 ∨ n = 2 ∨ n = 4 ∨ n = 8) (hh : how ≤ 7) (hx : x < n) (hy : y < n) (w : World) :
    Calls Try.prog 44 #[.int .i64 n, .int .i64 how, .int .i64 x, .int .i64 y] w fun e w' => e = .returned (.tuple #[.int .i64 ((fromT n how (x, y)).1 : Nat), .int .i64 ((fromT n how (x, y)).2 : Nat)]) ∧ w = w' := by
  have hn8 : n ≤ 8 := by rcases hn with rfl | rfl | rfl | rfl <;> omega
  have HIN := Lib.hid (show InSq n (x, y) from ⟨hx, hy⟩)
  obtain ⟨m, hm⟩ : ∃ m, m = how % 4 := ⟨_, rfl⟩
  have hm1 : (how : Int).tmod 4 = (m : Int) := by rw [Int.tmod_eq_emod_of_nonneg (by omega)]; omega
  have hm2 : (how : Int) % 4 = (m : Int) := by omega
  have hm4 : m ≤ 3 := by omega
  have HM := Lib.hid hm
  have h1 : IntKind.i64.wrap ((n : Int) - 1) = ((n - 1 : Nat) : Int) := by rw [IntWalk.i64_in _ (by omega)]; omega
  have h2 : wrap64 ((n : Int) - 1) = ((n - 1 : Nat) : Int) := by rw [wrap64_in (by omega) (by omega)]; omega
  clear hm hx hy
  go_enter Try.func44, Try.ntmps44
  go_wp2
  go_loop [2, 3, 12] (fun a b i => ∃ (k p q : Nat), i = .int .i64 k ∧ a = .int .i64 p ∧ b = .int .i64 q ∧ k ≤ m ∧ Hid (spins n k (x, y) = (p, q))) (fun _ _ i => m - (intOf i).toNat)
  case atStart => exact ⟨0, x, y, rfl, rfl, rfl, Nat.zero_le _, rfl⟩
  case round =>
    obtain ⟨k, p, q, rfl, rfl, rfl, hk, HS⟩ := hrel
    have hin : InSq n (p, q) := by rw [← HS.out]; exact spins_in _ HIN.out
    obtain ⟨hp, hq⟩ := hin
    simp only at hp hq
    have h3 : IntKind.i64.wrap (((n - 1 : Nat) : Int) - (p : Int)) = ((n - 1 - p : Nat) : Int) := by rw [IntWalk.i64_in _ (by omega)]; omega
    have h4 : wrap64 (((n - 1 : Nat) : Int) - (p : Int)) = ((n - 1 - p : Nat) : Int) := by rw [wrap64_in (by omega) (by omega)]; omega
    by_cases hkm : k < m
    · have HS2 : Hid (spins n (k + 1) (x, y) = (q, n - 1 - p)) := by
        show _ = _
        rw [spins_next, HS.out]
        rfl
      generalize n - 1 - p = r at *
      generalize n - 1 = n1 at *
      go_wp2
      go_round
      case rel => exact ⟨k + 1, q, r, by go_num, rfl, rfl, by omega, HS2⟩
      case measure => simp [intOf]; omega
    · obtain rfl : k = m := by omega
      by_cases h7 : 4 ≤ how
      · have hd : decide ((4 : Int) ≤ (how : Int)) = true := decide_eq_true (by omega)
        have HR : Hid (fromT n how (x, y) = (n - 1 - p, q)) := by
          show _ = _
          rw [fromT, if_pos h7, ← HM.out, HS.out]
          rfl
        generalize n - 1 - p = r at *
        generalize n - 1 = n1 at *
        go_wp2
        refine bodyPost_ret (v := .tuple #[.int .i64 (r : Nat), .int .i64 (q : Nat)]) (by simp [results, Try.results44, go_sem]) rfl ⟨by rw [HR.out], rfl⟩
      · have hd : decide ((4 : Int) ≤ (how : Int)) = false := decide_eq_false (by omega)
        have HR : Hid (fromT n how (x, y) = (p, q)) := by
          show _ = _
          rw [fromT, if_neg h7, ← HM.out, HS.out]
        go_wp2
        refine bodyPost_ret (v := .tuple #[.int .i64 (p : Nat), .int .i64 (q : Nat)]) (by simp [results, Try.results44, go_sem]) rfl ⟨by rw [HR.out], rfl⟩
/-- While the program turns a map: its box, its row, the box of what is to be handed back, the turned one's box and row. -/
structure TuB (w : World) (n : Nat) (A : Option Addr) (c m o c' : Nat) (A' : Option Addr) (t : List Int) (wr : World) (u : List Int) : Prop where
  inn : GB wr w.heap.size n (.slice A m c)
  src : RI wr w.heap.size A t
  res : GO wr (w.heap.size + 1)
  cpy : GB wr o n (.slice A' u.length c')
  own : OwnI 2 .i64 wr (o + 1) (.slice A' u.length c') u
  bel : Below w.heap.size w wr
  siz : w.heap.size + 1 < o ∧ o < wr.heap.size
theorem TuB.keep {w : World} {n : Nat} {A : Option Addr} {c m o c' : Nat} {A' : Option Addr} {t : List Int} {wr wr' : World} {u : List Int} (h : TuB w n A c m o c' A' t wr u) (hd : Below wr.heap.size wr wr') : TuB w n A c m o c' A' t wr' u := by
  obtain ⟨h1, h2⟩ := h.siz
  exact ⟨h.inn.below hd (by omega), h.src.below (hd.mono h.bel.size), h.res.below hd (by omega), h.cpy.below hd h2, h.own.keep hd, h.bel.trans (hd.mono h.bel.size), h1, Nat.lt_of_lt_of_le h2 hd.size⟩
theorem turn_take {n how k : Nat} {t : List Int} (ht : t.length = n * n) (hk : k < n * n) {x y S : Nat} (hf : fromT n how (k % n, k / n) = (x, y)) (hS : S = y * n + x) (hS2 : S < t.length) : (turnL n how t).take (k + 1) = (turnL n how t).take k ++ [t[S]] := by
  have hl : k < (turnL n how t).length := by rw [turnL_len]; exact hk
  have h1 := permL_at (f := fromT n how) (t := t) hk
  rw [hf] at h1
  simp only at h1
  rw [← hS, show t.getD S 0 = t[S] by simp [List.getD, hS2]] at h1
  have h2 : (turnL n how t)[k] = t[S] := by rw [← h1]; simp [turnL, List.getD, permL_len, hk]
  rw [List.take_succ_eq_append_getElem hl, h2]
/-- From one append to the next. -/
theorem TuB.step {w : World} {n : Nat} {A : Option Addr} {c m o c' cap g : Nat} {A' : Option Addr} {t : List Int} {wr w2 : World} {u : List Int} {v : Int} (h : TuB w n A c m o c' A' t wr u) (ho : OwnI 2 .i64 w2 (o + 1) (.slice (some ⟨g, 0, none⟩) (u.length + 1) cap) (u ++ [v])) (hb : Below (o + 1) wr w2) :
    TuB w n A c m o cap (some ⟨g, 0, none⟩) t (w2.setCell ⟨o, 1, none⟩ (.slice (some ⟨g, 0, none⟩) (u.length + 1) cap)) (u ++ [v]) := by
  obtain ⟨h1, h2⟩ := h.siz
  have e : (u ++ [v]).length = u.length + 1 := by simp
  refine ⟨(h.inn.below hb (by omega)).far (by show o ≠ _; omega) _, (h.src.below (hb.mono (by omega))).below ((Below.refl _ _).setCell (by show w.heap.size ≤ o; omega) _), ?_, ?_, ?_, (h.bel.trans (hb.mono (by omega))).setCell (by show w.heap.size ≤ o; omega) _, h1, ?_⟩
  · have := h.res.below hb (by omega)
    exact this.far (by show o ≠ _; omega) _
  · rw [e]; exact (h.cpy.below hb (by omega)).set1 _
  · rw [e]; exact OwnI.set_below (by show o < _; omega) _ ho
  · have := hb.size
    simp [World.setCell]
    omega

set_option maxRecDepth 100000 in
set_option maxHeartbeats 1000000 in
theorem pTurn_any (side how : Int) (A : Option Addr) (c : Nat) (l : List Int) (w : World) (h : RI w w.heap.size A l) (hl : l.length ≤ 1000000000) :
    Calls Try.prog 14 #[.agg #[.int .i64 side, .slice A l.length c], .int .i64 how] w fun e w' => GOut w w' (turnSide side l how) (turnTiles side l how) (turnCode side l how) e := by
  have HF0 := Lib.hid (FB.made w side (.slice A l.length c))
  have H := Lib.hid h
  clear h
  have hRt := fun w h => pRight_any side A c l w h hl
  cases hr : gridRight side l
  · rw [hr] at hRt
    obtain ⟨e1, e2, e3⟩ := turn_bad (side := side) (how := how) (l := l) (by simp [turnOk, hr])
    rw [e1, e2, e3]
    clear hr e1 e2 e3
    go_enter Try.func14, Try.ntmps14
    go_wp2_with fail
    refine (hRt _ ((H.out.below HF0.out.bel).mono HF0.out.bel.size)).mono ?_
    rintro e w1 ⟨rfl, hb1⟩
    have HF1 := Lib.hid (HF0.out.below hb1)
    clear hb1
    obtain ⟨_, ⟨c0, c1, c2, f0, f1, f2⟩, _, hz⟩ := HF1.out
    go_wp2
    refine bodyPost_ret (v := .agg #[.int .i64 0, .slice none 0 0, .int .i64 1]) (by simp [results, Try.results14, go_sem, c0, c1, c2]) rfl ?_
    exact ⟨none, 0, rfl, OwnI.nil _ _ _ _, ((HF1.out.bel.setCell (by simp) _).setCell (by simp) _).setCell (by simp) _⟩
  · rw [hr] at hRt
    by_cases hi0 : how < 0
    · have hd0 : decide (how < 0) = true := decide_eq_true hi0
      obtain ⟨e1, e2, e3⟩ := turn_bad (side := side) (how := how) (l := l) (by simp [turnOk, inIs]; omega)
      rw [e1, e2, e3]
      clear hr e1 e2 e3 hi0
      go_enter Try.func14, Try.ntmps14
      go_wp2_with fail
      refine (hRt _ ((H.out.below HF0.out.bel).mono HF0.out.bel.size)).mono ?_
      rintro e w1 ⟨rfl, hb1⟩
      have HF1 := Lib.hid (HF0.out.below hb1)
      clear hb1
      obtain ⟨_, ⟨c0, c1, c2, f0, f1, f2⟩, _, hz⟩ := HF1.out
      go_wp2
      refine bodyPost_ret (v := .agg #[.int .i64 0, .slice none 0 0, .int .i64 1]) (by simp [results, Try.results14, go_sem, c0, c1, c2]) rfl ?_
      exact ⟨none, 0, rfl, OwnI.nil _ _ _ _, ((HF1.out.bel.setCell (by simp) _).setCell (by simp) _).setCell (by simp) _⟩
    · have hd0 : decide (how < 0) = false := decide_eq_false hi0
      by_cases hi7 : 7 < how
      · have hd7 : decide (7 < how) = true := decide_eq_true hi7
        obtain ⟨e1, e2, e3⟩ := turn_bad (side := side) (how := how) (l := l) (by simp [turnOk, inIs]; omega)
        rw [e1, e2, e3]
        clear hr e1 e2 e3 hi0 hi7
        go_enter Try.func14, Try.ntmps14
        go_wp2_with fail
        refine (hRt _ ((H.out.below HF0.out.bel).mono HF0.out.bel.size)).mono ?_
        rintro e w1 ⟨rfl, hb1⟩
        have HF1 := Lib.hid (HF0.out.below hb1)
        clear hb1
        obtain ⟨_, ⟨c0, c1, c2, f0, f1, f2⟩, _, hz⟩ := HF1.out
        go_wp2
        refine bodyPost_ret (v := .agg #[.int .i64 0, .slice none 0 0, .int .i64 1]) (by simp [results, Try.results14, go_sem, c0, c1, c2]) rfl ?_
        exact ⟨none, 0, rfl, OwnI.nil _ _ _ _, ((HF1.out.bel.setCell (by simp) _).setCell (by simp) _).setCell (by simp) _⟩
      · have hd7 : decide (7 < how) = false := decide_eq_false hi7
        obtain ⟨e1, e2, e3⟩ := turn_good (side := side) (how := how) (l := l) (by simp [turnOk, inIs, hr]; omega)
        rw [e1, e2, e3]
        obtain ⟨i0, hi, hz0, hz1, hz2⟩ := info_parts Try.infoInt
        obtain ⟨n, hn, hn4, hln⟩ := right_sn hr
        obtain ⟨m, rfl⟩ := Int.eq_ofNat_of_zero_le (show 0 ≤ how by omega)
        subst hn
        have hm7 : m ≤ 7 := by omega
        simp only [Int.toNat_natCast]
        have hn8 : n ≤ 8 ∧ 1 ≤ n := by rcases hn4 with rfl | rfl | rfl | rfl <;> omega
        have h64 : n * n ≤ 64 := by rcases hn4 with rfl | rfl | rfl | rfl <;> omega
        have HN4 := Lib.hid hn4
        have HLn := Lib.hid hln
        obtain ⟨q, hq⟩ : ∃ q, q = n * n := ⟨_, rfl⟩
        have hsq1 : IntKind.i64.wrap ((n : Int) * (n : Int)) = (q : Int) := by rw [IntWalk.i64_in _ (by rcases hn4 with rfl | rfl | rfl | rfl <;> omega)]; rw [hq]; rcases hn4 with rfl | rfl | rfl | rfl <;> rfl
        have hq64 : q ≤ 64 := by omega
        have HQ := Lib.hid hq
        have hnz : ¬ (n : Int) = 0 := by omega
        have hnz2 : ¬ n = 0 := by omega
        clear hr e1 e2 e3 hi0 hi7 hn4 hln h64 hq
        go_enter Try.func14, Try.ntmps14
        go_wp2_with fail
        refine (hRt _ ((H.out.below HF0.out.bel).mono HF0.out.bel.size)).mono ?_
        rintro e w1 ⟨rfl, hb1⟩
        have HF1 := Lib.hid (HF0.out.below hb1)
        clear hb1
        obtain ⟨⟨i0', i1, j0, j1⟩, _, _, hz1'⟩ := HF1.out
        have hz1w : w.heap.size < w1.heap.size := by omega
        have HT0 : Hid (TuB w n A c l.length w1.heap.size 0 none l (w1.alloc (.cells #[.int .i64 n, .slice none 0 0] 37)) []) := by
          have ha : Below w1.heap.size w1 (w1.alloc (.cells #[.int .i64 n, .slice none 0 0] 37)) := (Below.refl _ _).alloc (Nat.le_refl _) _
          have hf := HF1.out.below ha
          exact ⟨hf.inn, H.out.below hf.bel, hf.res, GB.made _ _ _ _, OwnI.nil _ _ _ _, hf.bel, by omega, by simp⟩
        clear HF1
        go_wp2
        generalize w1.alloc (.cells #[.int .i64 n, .slice none 0 0] 37) = w3 at *
        generalize w1.heap.size = o at *
        clear i0' i1 j0 j1
        go_loopw [29] (fun i wr => ∃ (k : Nat) (A' : Option Addr) (c' : Nat), i = .int .i64 k ∧ k ≤ q ∧ TuB w n A c l.length o c' A' l wr ((turnL n m l).take k)) (fun i _ => q - (intOf i).toNat)
        case atStart => exact ⟨0, none, 0, rfl, Nat.zero_le _, HT0.out⟩
        case round =>
          obtain ⟨k, A', c', rfl, hk, htb⟩ := hrel
          have HT := Lib.hid htb
          clear HT0
          by_cases hlt : k < q
          · have hkn : k < n * n := by rw [← HQ.out]; exact hlt
            obtain ⟨⟨hx, hy⟩, _⟩ := sq_at hkn
            simp only at hx hy
            obtain ⟨am, ham⟩ : ∃ am, am = k % n := ⟨_, rfl⟩
            obtain ⟨ad, had⟩ : ∃ ad, ad = k / n := ⟨_, rfl⟩
            rw [← ham] at hx
            rw [← had] at hy
            obtain ⟨fx, fy, hfe⟩ : ∃ fx fy, fromT n m (am, ad) = (fx, fy) := ⟨_, _, rfl⟩
            have hin := fromT_in (how := m) (show InSq n (am, ad) from ⟨hx, hy⟩)
            rw [hfe] at hin
            obtain ⟨hfx, hfy⟩ := hin
            simp only at hfx hfy
            have hF := fun w => (pFrom_any n m am ad HN4.out hm7 hx hy w).mono (fun _ _ h => (⟨h.1, h.2.symm⟩ : _ ∧ _))
            rw [hfe] at hF
            simp only at hF
            obtain ⟨_, _, _, _, s, S, ⟨_, eS, _, hS⟩, _, _, _, _, m5, m6⟩ := turn_idx HN4.out hfx hfy
            have hSl : S < l.length := by rw [HLn.out]; exact hS
            have HTK := Lib.hid (turn_take (how := m) HLn.out hkn (by rw [← ham, ← had]; exact hfe) eS hSl)
            have htm : (k : Int).tmod (n : Int) = (am : Int) := by rw [Int.tmod_eq_emod_of_nonneg (by omega), ham]; simp
            have htm2 : (k : Int) % (n : Int) = (am : Int) := by rw [ham]; simp
            have hdv : IntKind.i64.wrap ((k : Int) / (n : Int)) = (ad : Int) := by
              have hle : k / n ≤ k := Nat.div_le_self _ _
              rw [IntWalk.i64_in _ (by constructor <;> (rw [← Int.natCast_ediv]; omega)), had]
              simp
            obtain ⟨b, off, rfl, hbl, hcs⟩ := htb.src.at_ hSl
            have hSI : (S : Int) < (l.length : Int) := by omega
            have hS0 : (0 : Int) ≤ (S : Int) := by omega
            have htl : ((turnL n m l).take k).length = k := by rw [List.length_take, turnL_len]; omega
            have HTL := Lib.hid htl
            obtain ⟨⟨a0, a1, _, _⟩, _, _, ⟨y0, y1, _, _⟩, _, _, z1, z2⟩ := htb
            generalize l[S] = v at *
            generalize (turnL n m l).take k = U at *
            have hUl : U.length ≤ 64 := by have := HTL.out; omega
            clear ham had hkn hx hy hfe hfx hfy eS hS htl
            go_wp2_with fail
            go_quiet (first | (go_at_call 44; refine Calls.quiet_of_same (hF _)))
            have hst : Still wr (wr.drewN nq) := ⟨rfl, rfl, rfl, rfl⟩
            have HT2 := Lib.hid (HT.out.keep (hst.below _))
            have HCB := Lib.hid ((hst.cell ⟨b, off + S, none⟩).trans hcs)
            clear hcs
            clear a0 a1 y0 y1 hst HT hF
            go_wp2_with fail
            generalize wr.drewN nq = W at *
            obtain ⟨⟨a0, a1, _, _⟩, _, _, ⟨y0, y1, _, _⟩, _, hbl2, z1, z2⟩ := HT2.out
            have hcb := HCB.out
            clear HCB
            have hzb : b < W.heap.size := Nat.lt_of_lt_of_le hbl hbl2.size
            have HA := Lib.hid (HT2.out.own.alloc (.cells #[.int .i64 v] 2)).drew
            have HX : Hid (∀ j (h : j < [v].length), (W.alloc (.cells #[.int .i64 v] 2)).drew.cell? ⟨W.heap.size, 0 + j, none⟩ = some (.int .i64 [v][j])) := by
              show ∀ j (h : j < [v].length), _
              intro j hj
              obtain rfl : j = 0 := by simpa using hj
              simp [go_sem]
            have hab : Below W.heap.size W (W.alloc (.cells #[.int .i64 v] 2)).drew := ((Below.refl _ _).alloc (Nat.le_refl _) _).drew
            have HT3 := Lib.hid (HT2.out.keep hab)
            obtain ⟨_, _, _, ⟨g0, g1, g2, g3⟩, _, _, _, _⟩ := HT3.out
            have hnw : ¬ o = W.heap.size := by omega
            clear hab hbl2
            go_region_law ((refine step_append_ints Try.underlying33 hi hz0 hz1 hz2 (by decide) (by rfl) _ _ (by rfl) (o + 1) _ _ [v] _ W.heap.size 0 1 HA.out (by rfl) (by rfl) HX.out (Nat.zero_lt_one) (by simp <;> omega) (by simp <;> omega) ?_; intro g cap w1 hown1 hb1; obtain ⟨p0', p1', q0', q1'⟩ := HT3.out.cpy.below hb1 (by omega)))
            all_goals
              have HT4 := Lib.hid (HT3.out.step hown1 hb1)
              clear hown1 hb1 a0 a1 y0 y1 g0 g1 g2 g3 hcb
              go_wp2
              go_roundw
              case rel => exact ⟨k + 1, some ⟨g, 0, none⟩, cap, by go_num, by omega, by rw [HTK.out]; exact HT4.out⟩
              case measure => simp [intOf]; omega
          · have ek : (turnL n m l).take k = turnL n m l := List.take_of_length_le (by rw [turnL_len, ← HQ.out]; omega)
            rw [ek] at htb HT
            clear ek
            obtain ⟨⟨a0, a1, _, _⟩, _, ⟨c0, c1, c2, f0, f1, f2⟩, ⟨y0, y1, _, _⟩, _, _, z1, z2⟩ := htb
            generalize hU : turnL n m l = U at *
            have HU := Lib.hid hU
            clear hU
            go_wp2
            refine bodyPost_ret (v := .agg #[.int .i64 n, .slice A' U.length c', .int .i64 0]) (by simp [results, Try.results14, go_sem, c0, c1, c2]) rfl ?_
            rw [HU.out]
            refine ⟨A', c', rfl, ?_, ((HT.out.bel.setCell (by simp) _).setCell (by simp) _).setCell (by simp) _⟩
            exact OwnI.lower (base := o + 1) (by omega) (OwnI.set_below (by show w.heap.size + 1 < _; omega) _ (OwnI.set_below (by show w.heap.size + 1 < _; omega) _ (OwnI.set_below (by show w.heap.size + 1 < _; omega) _ HT.out.own)))
end Go.Proofs.Ytoobkajilbmdhaa
