/- Two maps that are alike. -/
import Derived.Test.YtcadjfnfjakbeaaGridA
import Derived.BigQuiet
namespace Go.Proofs.Ytcadjfnfjakbeaa
open Go.RowKit

def sameL (side side' : Int) (l l' : List Int) : Bool := side == side' && l == l'
def sameGrid (side side' : Int) (l l' : List Int) : Bool := gridRight side l && gridRight side' l' && sameL side side' l l'

set_option maxRecDepth 100000 in
set_option maxHeartbeats 400000 in
theorem mSame_any (side side' : Int) (A A' : Option Addr) (c c' : Nat) (l l' : List Int) (w : World) (h : RI w w.heap.size A l) (h' : RI w w.heap.size A' l') (hl : l.length ≤ 1000000000) (hl' : l'.length ≤ 1000000000) :
    Calls Try.prog 74 #[.agg #[.int .i64 side, .slice A l.length c], .agg #[.int .i64 side', .slice A' l'.length c']] w fun e w' => e = .returned (.bool (sameL side side' l l')) ∧ Below w.heap.size w w' := by
  have hbw : Below w.heap.size w ((w.alloc (.cells #[.int .i64 side, .slice A l.length c] 25)).alloc (.cells #[.int .i64 side', .slice A' l'.length c'] 25)) := ((Below.refl _ _).alloc (Nat.le_refl _) _).alloc (by simp) _
  have H := Lib.hid h
  have H' := Lib.hid h'
  clear h h'
  cases hs : (side == side')
  · have HS := Lib.hid hs
    go_enter Try.func74, Try.ntmps74
    go_wp2
    go_ret
    exact ⟨ret_bool (by rw [sameL, HS.out]; rfl), hbw⟩
  · obtain rfl := eq_of_beq hs
    clear hs
    by_cases hn : l.length = l'.length
    · have HN := Lib.hid hn
      have HR := Lib.hid (H.out.below hbw)
      have HR' := Lib.hid (H'.out.below hbw)
      rw [← hn] at HR' hbw ⊢
      rw [← hn] at HR
      clear hn
      go_enter Try.func74, Try.ntmps74
      go_wp2
      have HG : Hid (GB ((w.alloc (.cells #[.int .i64 side, .slice A l.length c] 25)).alloc (.cells #[.int .i64 side, .slice A' l.length c'] 25)) w.heap.size side (.slice A l.length c)) := (GB.made w side (.slice A l.length c) 25).below ((Below.refl _ _).alloc (B := w.heap.size + 1) (by simp) _) (by omega)
      have HG' : Hid (GB ((w.alloc (.cells #[.int .i64 side, .slice A l.length c] 25)).alloc (.cells #[.int .i64 side, .slice A' l.length c'] 25)) (w.heap.size + 1) side (.slice A' l.length c')) := by
        have := GB.made (w.alloc (.cells #[.int .i64 side, .slice A l.length c] 25)) side (.slice A' l.length c') 25
        rw [alloc_size] at this
        exact this
      generalize (w.alloc (.cells #[.int .i64 side, .slice A l.length c] 25)).alloc (.cells #[.int .i64 side, .slice A' l.length c'] 25) = W0 at *
      go_loopw [5] (fun i wr => ∃ k : Nat, i = .int .i64 k ∧ k ≤ l.length ∧ Still W0 wr ∧ ∀ j (hj : j < l.length) (hj' : j < l'.length), j < k → l[j] = l'[j]) (fun i _ => l.length - (intOf i).toNat)
      case atStart => exact ⟨0, rfl, Nat.zero_le _, Still.refl _, fun j _ _ h => absurd h (Nat.not_lt_zero _)⟩
      case round =>
        obtain ⟨k, rfl, hk, hs, hall⟩ := hrel
        have HA := Lib.hid hall
        clear hall
        obtain ⟨p0, p1, q0, q1⟩ := HG.out.below (hs.below (w.heap.size + 1)) (by omega)
        obtain ⟨p0', p1', q0', q1'⟩ := HG'.out.below (hs.below (w.heap.size + 1 + 1)) (by omega)
        have HST := Lib.hid hs
        by_cases hlt : k < l.length
        · obtain ⟨b, off, rfl, _, hc⟩ := (HR.out.still hs).at_ hlt
          obtain ⟨b', off', rfl, _, hc'⟩ := (HR'.out.still hs).at_ (by rw [← HN.out]; exact hlt)
          have hlt' : k < l'.length := by rw [← HN.out]; exact hlt
          generalize hx : l[k] = x at hc
          generalize hx' : l'[k] = x' at hc'
          have HX := Lib.hid hx
          have HX' := Lib.hid hx'
          clear hs hx hx'
          by_cases hxx : x = x'
          · subst hxx
            go_wp2_with fail
            go_quiet (fail)
            go_wp2
            go_roundw
            case rel => exact ⟨k + 1, by go_num, by omega, HST.out.trans ⟨rfl, rfl, rfl, rfl⟩, fun j h1 h2 h3 => by
              by_cases e : j = k
              · subst e; rw [HX.out, HX'.out]
              · exact HA.out j h1 h2 (by omega)⟩
            case measure => simp [intOf]; omega
          · have hxb : (x == x') = false := by simpa using hxx
            have HXX := Lib.hid hxx
            clear hxx
            go_wp2_with fail
            go_quiet (fail)
            go_wp2
            go_ret
            refine ⟨ret_bool ?_, (hbw.trans (HST.out.below _)).trans ⟨rfl, rfl, rfl, Nat.le_refl _, fun _ _ => rfl⟩⟩
            have : (l == l') = false := by
              rw [← Bool.not_eq_true]
              intro h
              obtain rfl := eq_of_beq h
              exact HXX.out (by rw [← HX.out, ← HX'.out])
            rw [sameL, this]
            simp
        · go_wp2
          go_ret
          refine ⟨ret_bool ?_, hbw.trans (HST.out.below _)⟩
          have : l = l' := List.ext_getElem HN.out fun j h1 h2 => HA.out j h1 h2 (by omega)
          rw [sameL, this]
          simp
    · have HN := Lib.hid hn
      have hne : ((l.length : Int) == (l'.length : Int)) = false := by simp; omega
      clear hn
      go_enter Try.func74, Try.ntmps74
      go_wp2
      go_ret
      refine ⟨ret_bool ?_, hbw⟩
      have : (l == l') = false := by
        rw [← Bool.not_eq_true]
        intro h
        exact HN.out (congrArg List.length (eq_of_beq h))
      rw [sameL, this]
      simp

set_option maxRecDepth 100000 in
set_option maxHeartbeats 400000 in
theorem mSameGrid_any (side side' : Int) (A A' : Option Addr) (c c' : Nat) (l l' : List Int) (w : World) (h : RI w w.heap.size A l) (h' : RI w w.heap.size A' l') (hl : l.length ≤ 1000000000) (hl' : l'.length ≤ 1000000000) :
    Calls Try.prog 27 #[.agg #[.int .i64 side, .slice A l.length c], .agg #[.int .i64 side', .slice A' l'.length c']] w fun e w' => e = .returned (.bool (sameGrid side side' l l')) ∧ Below w.heap.size w w' := by
  have hR := fun w h => mRight_any side A c l w h hl
  have hR' := fun w h => mRight_any side' A' c' l' w h hl'
  have H := Lib.hid h
  have H' := Lib.hid h'
  have hS := fun w h h' => mSame_any side side' A A' c c' l l' w h h' hl hl'
  have hbw : Below w.heap.size w ((w.alloc (.cells #[.int .i64 side, .slice A l.length c] 25)).alloc (.cells #[.int .i64 side', .slice A' l'.length c'] 25)) := ((Below.refl _ _).alloc (Nat.le_refl _) _).alloc (by simp) _
  clear h h'
  cases hr : gridRight side l
  · rw [hr] at hR
    have HR := Lib.hid hr
    clear hr
    go_enter Try.func27, Try.ntmps27
    go_wp2_with fail
    refine (hR _ ((H.out.below hbw).mono hbw.size)).mono ?_
    rintro e w1 ⟨rfl, hb1⟩
    have HB := Lib.hid (hbw.trans (hb1.mono hbw.size))
    clear hb1
    go_wp2
    go_ret
    exact ⟨ret_bool (by simp [sameGrid, HR.out]), HB.out⟩
  · cases hr' : gridRight side' l'
    · rw [hr] at hR
      rw [hr'] at hR'
      have HR := Lib.hid hr'
      clear hr hr'
      go_enter Try.func27, Try.ntmps27
      go_wp2_with fail
      refine (hR _ ((H.out.below hbw).mono hbw.size)).mono ?_
      rintro e w1 ⟨rfl, hb1⟩
      have HB1 := Lib.hid (hbw.trans (hb1.mono hbw.size))
      obtain ⟨hc1, hf1⟩ := bcell hb1
      have hz1 : w.heap.size + 1 < w1.heap.size := by have := hb1.size; simp at this; omega
      have hy1 : w.heap.size < w1.heap.size := by omega
      clear hb1
      go_wp2_with fail
      refine (hR' _ ((H'.out.below HB1.out).mono HB1.out.size)).mono ?_
      rintro e w2 ⟨rfl, hb2⟩
      have HB := Lib.hid (HB1.out.trans (hb2.mono HB1.out.size))
      obtain ⟨hc2, hf2⟩ := bcell hb2
      clear hb2
      go_wp2
      go_ret
      exact ⟨ret_bool (by simp [sameGrid, HR.out]), HB.out⟩
    · rw [hr] at hR
      rw [hr'] at hR'
      have HR := Lib.hid hr
      have HR' := Lib.hid hr'
      clear hr hr'
      go_enter Try.func27, Try.ntmps27
      go_wp2_with fail
      refine (hR _ ((H.out.below hbw).mono hbw.size)).mono ?_
      rintro e w1 ⟨rfl, hb1⟩
      have HB1 := Lib.hid (hbw.trans (hb1.mono hbw.size))
      obtain ⟨hc1, hf1⟩ := bcell hb1
      have hz1 : w.heap.size + 1 < w1.heap.size := by have := hb1.size; simp at this; omega
      have hy1 : w.heap.size < w1.heap.size := by omega
      clear hb1
      go_wp2_with fail
      refine (hR' _ ((H'.out.below HB1.out).mono HB1.out.size)).mono ?_
      rintro e w2 ⟨rfl, hb2⟩
      have HB := Lib.hid (HB1.out.trans (hb2.mono HB1.out.size))
      obtain ⟨hc2, hf2⟩ := bcell hb2
      clear hb2
      go_wp2_with fail
      refine (hS _ ((H.out.below HB.out).mono HB.out.size) ((H'.out.below HB.out).mono HB.out.size)).mono ?_
      rintro e w3 ⟨rfl, hb3⟩
      have HB3 := Lib.hid (HB.out.trans (hb3.mono HB.out.size))
      clear hb3
      go_wp2
      go_ret
      exact ⟨ret_bool (by simp [sameGrid, HR.out, HR'.out]), HB3.out⟩
end Go.Proofs.Ytcadjfnfjakbeaa
