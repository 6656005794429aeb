/- The program's maps: two that are alike. -/
import Derived.Test.YtcadjfnfjakbeaaPgB
import Derived.Test.YtcadjfnfjakbeaaGWalkS
namespace Go.Proofs.Ytcadjfnfjakbeaa
open Go.RowKit

set_option maxRecDepth 100000 in
set_option maxHeartbeats 400000 in
theorem pEqual_any (A A' : Option Addr) (c c' : Nat) (l l' : List Int) (w : World) (h : RI w w.heap.size A l) (h' : RI w w.heap.size A' l') (hl : l.length ≤ 1000000000) (hl' : l'.length ≤ 1000000000) :
    Calls Try.prog 73 #[.slice A l.length c, .slice A' l'.length c'] w fun e w' => e = .returned (.bool (l == l')) ∧ Below w.heap.size w w' := by
  have H := Lib.hid h
  have H' := Lib.hid h'
  clear h h'
  by_cases hn : l.length = l'.length
  · have HN := Lib.hid hn
    rw [← hn]
    clear hn
    go_enter Try.func73, Try.ntmps73
    go_wp2
    go_loopw [5, 13] (fun _ i wr => ∃ k : Nat, i = .int .i64 k ∧ k ≤ l.length ∧ Still w wr ∧ ∀ j (hj : j < l.length) (hj' : j < l'.length), j < k → l[j] = l'[j]) (fun _ i _ => l.length - (intOf i).toNat)
    case atStart => exact ⟨0, rfl, Nat.zero_le _, Still.refl _, fun j _ _ h => absurd h (Nat.not_lt_zero _)⟩
    case round =>
      obtain ⟨k, rfl, hk, hs, hall⟩ := hrel
      have HA := Lib.hid hall
      clear hall
      have HST := Lib.hid hs
      by_cases hlt : k < l.length
      · obtain ⟨b, off, rfl, _, hc⟩ := (H.out.still hs).at_ hlt
        obtain ⟨b', off', rfl, _, hc'⟩ := (H'.out.still hs).at_ (by rw [← HN.out]; exact hlt)
        have hlt' : k < l'.length := by rw [← HN.out]; exact hlt
        generalize hx : l[k] = x at hc
        generalize hx' : l'[k] = x' at hc'
        have HX := Lib.hid hx
        have HX' := Lib.hid hx'
        clear hs hx hx'
        by_cases hxx : x = x'
        · subst hxx
          go_wp2_with fail
          go_quiet (fail)
          go_wp2
          go_roundw
          case rel => exact ⟨k + 1, by go_num, by omega, HST.out.trans ⟨rfl, rfl, rfl, rfl⟩, fun j h1 h2 h3 => by
            by_cases e : j = k
            · subst e; rw [HX.out, HX'.out]
            · exact HA.out j h1 h2 (by omega)⟩
          case measure => simp [intOf]; omega
        · have hxb : (x == x') = false := by simpa using hxx
          have hxn : (x != x') = true := by simpa using hxx
          have HXX := Lib.hid hxx
          clear hxx
          go_wp2_with fail
          go_quiet (fail)
          go_wp2
          go_ret
          refine ⟨ret_bool ?_, (HST.out.below _).trans ⟨rfl, rfl, rfl, Nat.le_refl _, fun _ _ => rfl⟩⟩
          symm; rw [← Bool.not_eq_true]
          intro h
          obtain rfl := eq_of_beq h
          exact HXX.out (by rw [← HX.out, ← HX'.out])
      · go_wp2
        go_ret
        refine ⟨ret_bool ?_, HST.out.below _⟩
        have : l = l' := List.ext_getElem HN.out fun j h1 h2 => HA.out j h1 h2 (by omega)
        rw [this]
        simp
  · have HN := Lib.hid hn
    have hne : ((l.length : Int) == (l'.length : Int)) = false := by simp; omega
    have hnb : ((l.length : Int) != (l'.length : Int)) = true := by simp; omega
    clear hn
    go_enter Try.func73, Try.ntmps73
    go_wp2
    go_ret
    refine ⟨ret_bool ?_, Below.refl _ _⟩
    symm; rw [← Bool.not_eq_true]
    intro h
    exact HN.out (congrArg List.length (eq_of_beq h))

theorem same_tiles {side side' : Int} {l l' : List Int} (h : gridRight side l = true) (h' : gridRight side' l' = true) : sameL side side' l l' = (l == l') := by
  unfold sameL
  cases e : (l == l')
  · simp
  · obtain rfl := eq_of_beq e
    obtain ⟨hs, hl, _⟩ := right_parts h
    obtain ⟨hs', hl', _⟩ := right_parts h'
    have : side = side' := by
      rcases (sideOk_iff side).1 hs with rfl | rfl | rfl | rfl <;> rcases (sideOk_iff side').1 hs' with rfl | rfl | rfl | rfl <;> omega
    simp [this]

set_option maxRecDepth 100000 in
set_option maxHeartbeats 400000 in
theorem pSameGrid_any (side side' : Int) (A A' : Option Addr) (c c' : Nat) (l l' : List Int) (w : World) (h : RI w w.heap.size A l) (h' : RI w w.heap.size A' l') (hl : l.length ≤ 1000000000) (hl' : l'.length ≤ 1000000000) :
    Calls Try.prog 26 #[.agg #[.int .i64 side, .slice A l.length c], .agg #[.int .i64 side', .slice A' l'.length c']] w fun e w' => e = .returned (.bool (sameGrid side side' l l')) ∧ Below w.heap.size w w' := by
  have hR := fun w h => pRight_any side A c l w h hl
  have hR' := fun w h => pRight_any side' A' c' l' w h hl'
  have H := Lib.hid h
  have H' := Lib.hid h'
  have hS := fun w h h' => pEqual_any A A' c c' l l' w h h' hl hl'
  have HP0 : Hid (PP w side side' (.slice A l.length c) (.slice A' l'.length c') ((w.alloc (.cells #[.int .i64 side, .slice A l.length c] 25)).alloc (.cells #[.int .i64 side', .slice A' l'.length c'] 25))) := by
    refine ⟨(GB.made w side (.slice A l.length c) 25).below ((Below.refl _ _).alloc (B := w.heap.size + 1) (by simp) _) (by omega), ?_, ((Below.refl _ _).alloc (Nat.le_refl _) _).alloc (by simp) _, by simp⟩
    have := GB.made (w.alloc (.cells #[.int .i64 side, .slice A l.length c] 25)) side' (.slice A' l'.length c') 25
    rw [alloc_size] at this
    exact this
  clear h h'
  cases hr : gridRight side l
  · rw [hr] at hR
    have HR := Lib.hid hr
    clear hr
    obtain ⟨_, _, hbw, _⟩ := HP0.out
    go_enter Try.func26, Try.ntmps26
    go_wp2_with fail
    refine (hR _ ((H.out.below hbw).mono hbw.size)).mono ?_
    rintro e w1 ⟨rfl, hb1⟩
    have HB := Lib.hid (hbw.trans (hb1.mono hbw.size))
    clear hb1
    go_wp2
    go_ret
    exact ⟨ret_bool (by simp [sameGrid, HR.out]), HB.out⟩
  · cases hr' : gridRight side' l'
    · rw [hr] at hR
      rw [hr'] at hR'
      have HR := Lib.hid hr'
      clear hr hr'
      go_enter Try.func26, Try.ntmps26
      go_wp2_with fail
      refine (hR _ ((H.out.below HP0.out.bel).mono HP0.out.bel.size)).mono ?_
      rintro e w1 ⟨rfl, hb1⟩
      have HP1 := Lib.hid (HP0.out.below hb1)
      clear hb1
      obtain ⟨⟨c0, c1, f0, f1⟩, ⟨d0, d1, g0, g1⟩, hb, hz⟩ := HP1.out
      go_wp2_with fail
      refine (hR' _ ((H'.out.below hb).mono hb.size)).mono ?_
      rintro e w2 ⟨rfl, hb2⟩
      have HP2 := Lib.hid (HP1.out.below hb2)
      clear hb2
      go_wp2
      go_ret
      exact ⟨ret_bool (by simp [sameGrid, HR.out]), HP2.out.bel⟩
    · have HS := Lib.hid (same_tiles hr hr')
      have HQ := Lib.hid hr
      have HQ' := Lib.hid hr'
      rw [hr] at hR
      rw [hr'] at hR'
      clear hr hr'
      go_enter Try.func26, Try.ntmps26
      go_wp2_with fail
      refine (hR _ ((H.out.below HP0.out.bel).mono HP0.out.bel.size)).mono ?_
      rintro e w1 ⟨rfl, hb1⟩
      have HP1 := Lib.hid (HP0.out.below hb1)
      clear hb1
      obtain ⟨⟨c0, c1, f0, f1⟩, ⟨d0, d1, g0, g1⟩, hb, hz⟩ := HP1.out
      go_wp2_with fail
      refine (hR' _ ((H'.out.below hb).mono hb.size)).mono ?_
      rintro e w2 ⟨rfl, hb2⟩
      have HP2 := Lib.hid (HP1.out.below hb2)
      clear hb2 c0 c1 f0 f1 d0 d1 g0 g1 hb hz
      obtain ⟨⟨c0, c1, f0, f1⟩, ⟨d0, d1, g0, g1⟩, hb, hz⟩ := HP2.out
      go_wp2_with fail
      refine (hS _ ((H.out.below hb).mono hb.size) ((H'.out.below hb).mono hb.size)).mono ?_
      rintro e w3 ⟨rfl, hb3⟩
      have HB := Lib.hid (hb.trans (hb3.mono hb.size))
      clear hb3
      go_wp2
      go_ret
      exact ⟨ret_bool (by rw [sameGrid, HS.out, HQ.out, HQ'.out]; simp), HB.out⟩

theorem sameGrid_does : SameGridDoes := fun side side' A A' c c' l l' w _ _ h h' hl hl' => pSameGrid_any side side' A A' c c' l l' w h h' (by omega) (by omega)
end Go.Proofs.Ytcadjfnfjakbeaa
