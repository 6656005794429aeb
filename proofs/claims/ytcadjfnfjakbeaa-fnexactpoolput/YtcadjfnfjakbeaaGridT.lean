/- The text of a map. -/
import Derived.Test.YtcadjfnfjakbeaaGridA
namespace Go.Proofs.Ytcadjfnfjakbeaa
open Go.RowKit

/-- The bytes of the first k tiles. -/
def textTo (side : Int) (l : List Int) : Nat → List Int
  | 0 => []
  | k + 1 => textTo side l k ++ (48 + l.getD k 0) :: (if (k : Int) % side = side - 1 then [10] else [])
def textOf (side : Int) (l : List Int) : List Int := if gridRight side l then textTo side l l.length else []
theorem textTo_length (side : Int) (l : List Int) (k : Nat) : (textTo side l k).length ≤ 2 * k := by
  induction k with
  | zero => simp [textTo]
  | succ k ih => rw [textTo, List.length_append, List.length_cons]; split <;> simp <;> omega

set_option maxRecDepth 100000 in
set_option maxHeartbeats 400000 in
theorem mText_any (side : Int) (A : Option Addr) (c : Nat) (l : List Int) (w : World) (h : RI w w.heap.size A l) (hl : l.length ≤ 1000000000) :
    Calls Try.prog 22 #[.agg #[.int .i64 side, .slice A l.length c]] w fun e w' => e = .returned (.string (strOfNums (textOf side l))) ∧ Below w.heap.size w w' := by
  obtain ⟨i0, hi, hz0, hz1, hz2⟩ := info_parts Try.infoByte
  have hbw : Below w.heap.size w (w.alloc (.cells #[.int .i64 side, .slice A l.length c] 25)) := (Below.refl _ _).alloc (Nat.le_refl _) _
  have H := Lib.hid h
  clear h
  have hRt := fun w h => mRight_any side A c l w h hl
  cases hr : gridRight side l
  · rw [hr] at hRt
    have HR := Lib.hid hr
    clear hr
    go_enter Try.func22, Try.ntmps22
    go_wp2_with fail
    refine (hRt _ ((H.out.below hbw).mono (by simp))).mono ?_
    rintro e w1 ⟨rfl, hb1⟩
    have HB1 := Lib.hid (hbw.trans (hb1.mono (by simp)))
    clear hb1
    go_wp2
    go_ret
    exact ⟨ret_string (by rw [textOf, HR.out]; rfl), HB1.out⟩
  · rw [hr] at hRt
    have HR := Lib.hid hr
    have h64 := right_len hr
    obtain ⟨hs, hll, htl⟩ := right_parts hr
    clear hll
    have hsb := side_bound hs
    clear hr
    go_enter Try.func22, Try.ntmps22
    go_wp2_with fail
    refine (hRt _ ((H.out.below hbw).mono (by simp))).mono ?_
    rintro e w1 ⟨rfl, hb1⟩
    have HB1 := Lib.hid (hbw.trans (hb1.mono (by simp)))
    have hg1 : GB w1 w.heap.size side (.slice A l.length c) := (GB.made w side (.slice A l.length c) 25).below hb1 (by simp)
    have hz : w.heap.size < w1.heap.size := by have := hb1.size; simp at this; omega
    have HG1 := Lib.hid hg1
    clear hb1 hg1
    go_wp2
    go_loopw [3, 4] (fun v i wr => ∃ k : Nat, i = .int .i64 k ∧ k ≤ l.length ∧ GB wr w.heap.size side (.slice A l.length c) ∧ OwnI 5 .u8 wr w1.heap.size v (textTo side l k) ∧ Below w.heap.size w wr ∧ w1.heap.size ≤ wr.heap.size) (fun _ i _ => l.length - (intOf i).toNat)
    case atStart => exact ⟨0, rfl, Nat.zero_le _, HG1.out.below ((Below.refl _ _).alloc (Nat.le_refl _) _) hz, OwnI.lit [] (Nat.le_refl _) (by simp), HB1.out.alloc (by omega) _, by simp⟩
    case round =>
      obtain ⟨k, rfl, hk, hg, hown, hb, hsz⟩ := hrel
      have hlen := textTo_length side l k
      obtain ⟨p0, p1, q0, q1⟩ := hg
      by_cases hlt : k < l.length
      · obtain ⟨b, off, rfl, hbl, hcl⟩ := (H.out.below hb).at_ hlt
        obtain ⟨t0, t1⟩ := htl k hlt
        generalize hx : l[k] = x at *
        obtain ⟨n, rfl⟩ := Int.eq_ofNat_of_zero_le t0
        go_wp2_with (at_builtin; refine append_int Try.underlying22 hi hz0 hz1 hz2 (by decide) rfl _ _ rfl w1.heap.size _ _ (48 + (n : Int)) wr hown rfl rfl (by omega) hsz ?_; intro v' w2 hown2 hb2)
        obtain ⟨pp0, pp1, qq0, qq1⟩ := (GB.mk p0 p1 q0 q1).below hb2 hz
        have hz2' := hb2.size
        have HT := Lib.hid (show textTo side l (k + 1) = textTo side l k ++ (48 + (n : Int)) :: (if (k : Int) % side = side - 1 then [10] else []) by rw [textTo]; simp [List.getD, hlt, hx])
        have HB := Lib.hid (hb.trans (hb2.mono (by omega)))
        have HGG := Lib.hid (GB.mk pp0 pp1 qq0 qq1)
        have HK := Lib.hid hlt
        have htm : (k : Int).tmod side = (k : Int) % side := Int.tmod_eq_emod_of_nonneg (by omega)
        have hne : ¬ side = 0 := by omega
        have hw1 := side_sub hs
        have hlen2 : (textTo side l k ++ [48 + (n : Int)]).length < 17000000000000 := by simp; omega
        have hsz2 : w1.heap.size ≤ w2.heap.size := by omega
        clear p0 p1 q0 q1 hcl hb2 hown hb hlen H HG1 HB1 hRt hbw htl
        by_cases hm : (k : Int) % side = side - 1
        · have hmb : ((k : Int) % side == side - 1) = true := by simpa using hm
          have HM := Lib.hid hm
          clear hm
          go_region
          go_wp2_with (at_builtin; refine append_int Try.underlying22 hi hz0 hz1 hz2 (by decide) rfl _ _ rfl w1.heap.size _ _ 10 w2.drew hown2.drew rfl rfl hlen2 hsz2 ?_; intro v3 w3 hown3 hb3)
          go_roundw
          case rel =>
            refine ⟨k + 1, by go_num, by omega, HGG.out.below ((Below.refl _ _).drew.trans hb3) hz, ?_, HB.out.trans ((Below.refl _ _).drew.trans (hb3.mono (by omega))), Nat.le_trans hsz2 hb3.size⟩
            rw [HT.out, if_pos HM.out]
            simpa using hown3
          case measure => simp [intOf]; omega
        · have hmb : ((k : Int) % side == side - 1) = false := by simpa using hm
          have HM := Lib.hid hm
          clear hm
          go_region
          go_wp2
          go_roundw
          case rel =>
            refine ⟨k + 1, by go_num, by omega, HGG.out.below (Below.refl _ _).drew hz, ?_, HB.out.drew, hsz2⟩
            rw [HT.out, if_neg HM.out]
            exact hown2
          case measure => simp [intOf]; omega
      · have ek : k = l.length := by omega
        have hcv := OwnI.string hown Try.underlying22 Try.underlying5 Try.underlying9
        have HB := Lib.hid hb
        clear hown hb
        go_wp2
        go_ret
        exact ⟨ret_string (by rw [textOf, HR.out]; rfl), HB.out⟩
end Go.Proofs.Ytcadjfnfjakbeaa
