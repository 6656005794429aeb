/- The program's maps: a part of a row, the text. -/
import Derived.Test.YtcadjfnfjakbeaaPgB
namespace Go.Proofs.Ytcadjfnfjakbeaa
open Go.RowKit

set_option maxRecDepth 100000 in
set_option maxHeartbeats 400000 in
theorem pRow_any (side x y : Int) (b off n c j m : Nat) (w : World) (hj : y * side + x = j) (hy : IntKind.i64.wrap (y * side) = y * side) (hm : 1 ≤ m) (hjm : j + m ≤ c) (hc : j + m ≤ 1000000) :
    Calls Try.prog 59 #[.agg #[.int .i64 side, .slice (some ⟨b, off, none⟩) n c], .int .i64 x, .int .i64 y, .int .i64 (m : Nat)] w fun e w' => e = .returned (.slice (some ⟨b, off + j, none⟩) m m) ∧ Below w.heap.size w w' := by
  have hbw : Below w.heap.size w (w.alloc (.cells #[.int .i64 side, .slice (some ⟨b, off, none⟩) n c] 25)) := (Below.refl _ _).alloc (Nat.le_refl _) _
  have hw1 : IntKind.i64.wrap (y * side + x) = j := by rw [hj]; exact IntWalk.i64_in _ (by omega)
  have hw2 : IntKind.i64.wrap ((j : Int) + m) = (j + m : Nat) := by rw [IntWalk.i64_in _ (by omega)]; omega
  clear hj
  go_enter Try.func59, Try.ntmps59
  go_wp2
  go_ret
  exact ⟨by simp, hbw⟩

theorem right_nat {side : Int} {l : List Int} (h : gridRight side l = true) : ∃ sn : Nat, side = sn ∧ 1 ≤ sn ∧ sn ≤ 8 ∧ l.length = sn * sn := by
  obtain ⟨hs, hl, _⟩ := right_parts h
  rcases (sideOk_iff side).1 hs with rfl | rfl | rfl | rfl
  · exact ⟨1, rfl, by omega, by omega, by omega⟩
  · exact ⟨2, rfl, by omega, by omega, by omega⟩
  · exact ⟨4, rfl, by omega, by omega, by omega⟩
  · exact ⟨8, rfl, by omega, by omega, by omega⟩
theorem wrap_prod {k sn : Nat} (hk : k ≤ 8) (hs : sn ≤ 8) : IntKind.i64.wrap ((k : Int) * sn) = (k : Int) * sn := by
  have h : k * sn ≤ 8 * 8 := Nat.mul_le_mul hk hs
  have e : (k : Int) * sn = ((k * sn : Nat) : Int) := by simp
  rw [e]
  exact IntWalk.i64_in _ (by omega)

/-- The digits of the first i tiles of row y. -/
def rowTo (sn : Nat) (l : List Int) (y : Nat) : Nat → List Int
  | 0 => []
  | i + 1 => rowTo sn l y i ++ [48 + l.getD (y * sn + i) 0]
theorem rowTo_length (sn : Nat) (l : List Int) (y i : Nat) : (rowTo sn l y i).length = i := by
  induction i with
  | zero => rfl
  | succ i ih => rw [rowTo, List.length_append, ih]; rfl
theorem text_row (sn : Nat) (l : List Int) (y i : Nat) (hi : i ≤ sn) (hs : 0 < sn) : textTo sn l (y * sn + i) = textTo sn l (y * sn) ++ rowTo sn l y i ++ (if i = sn then [10] else []) := by
  induction i with
  | zero => simp [rowTo]; omega
  | succ i ih =>
    have hm : ((y * sn + i : Nat) : Int) % (sn : Int) = i := by
      rw [← Int.natCast_emod, Nat.add_comm, Nat.add_mul_mod_self_right, Nat.mod_eq_of_lt (by omega)]
    rw [← Nat.add_assoc, textTo, ih (by omega), hm, if_neg (by omega), rowTo]
    by_cases e : i + 1 = sn
    · rw [if_pos (by omega), if_pos e]; simp
    · rw [if_neg (by omega), if_neg e]; simp

set_option maxRecDepth 100000 in
set_option maxHeartbeats 400000 in
theorem pText_any (side : Int) (A : Option Addr) (c : Nat) (l : List Int) (w : World) (h : RI w w.heap.size A l) (hl : l.length ≤ 1000000000) (hlc : l.length ≤ c) :
    Calls Try.prog 13 #[.agg #[.int .i64 side, .slice A l.length c]] w fun e w' => e = .returned (.string (strOfNums (textOf side l))) ∧ Below w.heap.size w w' := by
  obtain ⟨i0, hi, hz0, hz1, hz2⟩ := info_parts Try.infoByte
  have hbw : Below w.heap.size w (w.alloc (.cells #[.int .i64 side, .slice A l.length c] 25)) := (Below.refl _ _).alloc (Nat.le_refl _) _
  have H := Lib.hid h
  clear h
  have hRt := fun w h => pRight_any side A c l w h hl
  cases hr : gridRight side l
  · rw [hr] at hRt
    have HR := Lib.hid hr
    clear hr
    go_enter Try.func13, Try.ntmps13
    go_wp2_with fail
    refine (hRt _ ((H.out.below hbw).mono (by simp))).mono ?_
    rintro e w1 ⟨rfl, hb1⟩
    have HB1 := Lib.hid (hbw.trans (hb1.mono (by simp)))
    clear hb1
    go_wp2
    go_ret
    exact ⟨ret_string (by rw [textOf, HR.out]; rfl), HB1.out⟩
  · rw [hr] at hRt
    have HR := Lib.hid hr
    have h64 := right_len hr
    obtain ⟨hs, hll, htl⟩ := right_parts hr
    have hsb := side_bound hs
    obtain ⟨sn, rfl, hs1, hs8, hln⟩ := right_nat hr
    have HTL := Lib.hid htl
    have HLN := Lib.hid hln
    obtain ⟨b, off, rfl, hbl, hcl⟩ := H.out.at_ (j := 0) (by rw [hln]; exact Nat.mul_pos hs1 hs1)
    clear hr hll htl hs hsb hcl hln
    go_enter Try.func13, Try.ntmps13
    go_wp2_with fail
    refine (hRt _ ((H.out.below hbw).mono (by simp))).mono ?_
    rintro e w1 ⟨rfl, hb1⟩
    have HB1 := Lib.hid (hbw.trans (hb1.mono (by simp)))
    have hg1 : GB w1 w.heap.size sn (.slice (some ⟨b, off, none⟩) l.length c) := (GB.made w sn (.slice (some ⟨b, off, none⟩) l.length c) 25).below hb1 (by simp)
    have hz : w.heap.size < w1.heap.size := by have := hb1.size; simp at this; omega
    have HG1 := Lib.hid hg1
    clear hb1
    obtain ⟨c0, c1, f0, f1⟩ := hg1
    go_wp2
    go_loopw [3, 12] (fun v i wr => ∃ k : Nat, i = .int .i64 k ∧ k ≤ sn ∧ GB wr w.heap.size sn (.slice (some ⟨b, off, none⟩) l.length c) ∧ OwnI 5 .u8 wr w1.heap.size v (textTo sn l (k * sn)) ∧ Below w.heap.size w wr ∧ w1.heap.size ≤ wr.heap.size) (fun _ i _ => sn - (intOf i).toNat)
    case atStart => exact ⟨0, rfl, Nat.zero_le _, HG1.out, by rw [Nat.zero_mul]; exact OwnI.nil _ _ _ _, HB1.out, Nat.le_refl _⟩
    case round =>
      obtain ⟨k, rfl, hk, hg, hown, hb, hsz⟩ := hrel
      clear c0 c1 f0 f1
      obtain ⟨c0, c1, f0, f1⟩ := hg
      have HG := Lib.hid (GB.mk c0 c1 f0 f1)
      have HB := Lib.hid hb
      have hlen := textTo_length sn l (k * sn)
      by_cases hlt : k < sn
      · have hks : (k + 1) * sn ≤ sn * sn := Nat.mul_le_mul_right _ hlt
        rw [Nat.add_mul, Nat.one_mul] at hks
        have hln := HLN.out
        have hpr := fun w => pRow_any sn 0 k b off l.length c (k * sn) sn w (by simp) (wrap_prod (by omega) hs8) hs1 (by omega) (by omega)
        have HO := Lib.hid hown
        clear hown hb hln
        go_wp2_with fail
        refine (hpr _).mono ?_
        rintro e w2 ⟨rfl, hb2⟩
        have HO2 := Lib.hid (HO.out.keep hb2)
        have HG2 := Lib.hid (HG.out.below hb2 (by omega))
        have HB2 := Lib.hid (HB.out.trans (hb2.mono HB.out.size))
        have hsz2 : w1.heap.size ≤ w2.heap.size := by have := hb2.size; omega
        clear hb2
        go_wp2
        go_loopw [3, 21] (fun v i wr => ∃ j : Nat, i = .int .i64 j ∧ j ≤ sn ∧ GB wr w.heap.size sn (.slice (some ⟨b, off, none⟩) l.length c) ∧ OwnI 5 .u8 wr w1.heap.size v (textTo sn l (k * sn) ++ rowTo sn l k j) ∧ Below w.heap.size w wr ∧ w1.heap.size ≤ wr.heap.size) (fun _ i _ => sn - (intOf i).toNat)
        case atStart => exact ⟨0, rfl, Nat.zero_le _, HG2.out, by rw [rowTo, List.append_nil]; exact HO2.out, HB2.out, hsz2⟩
        case round =>
          obtain ⟨j, rfl, hjs, hg3, hown3, hb3, hsz3⟩ := hrel
          have HG3 := Lib.hid hg3
          have HO3 := Lib.hid hown3
          have HB3 := Lib.hid hb3
          clear hg3
          have hlen3 : (textTo sn l (k * sn) ++ rowTo sn l k j).length < 17000000000000 := by rw [List.length_append, rowTo_length]; have := HLN.out; omega
          by_cases hj : j < sn
          · have hp : k * sn + j < l.length := by rw [HLN.out]; omega
            have hcl : wr.cell? ⟨b, off + k * sn + j, none⟩ = some (.int .i64 l[k * sn + j]) := by
              obtain ⟨b', off', he, _, hc'⟩ := (H.out.below hb3).at_ hp
              simp only [Option.some.injEq, Addr.mk.injEq, and_true] at he
              obtain ⟨rfl, rfl⟩ := he
              rw [Nat.add_assoc]; exact hc'
            obtain ⟨t0, t1⟩ := HTL.out _ hp
            have HX : Hid (l.getD (k * sn + j) 0 = l[k * sn + j]) := by exact (show l.getD (k * sn + j) 0 = l[k * sn + j] by simp [List.getD, hp])
            generalize l[k * sn + j] = x at *
            obtain ⟨n, rfl⟩ := Int.eq_ofNat_of_zero_le t0
            clear hb3 hown3 c0 c1 f0 f1
            go_wp2_with (at_builtin; refine append_int Try.underlying22 hi hz0 hz1 hz2 (by decide) rfl _ _ rfl w1.heap.size _ _ (48 + (n : Int)) wr HO3.out rfl rfl hlen3 hsz3 ?_; intro v' w4 hown4 hb4)
            go_roundw
            case rel =>
              refine ⟨j + 1, by go_num, by omega, HG3.out.below hb4 hz, ?_, HB3.out.trans (hb4.mono (by omega)), Nat.le_trans hsz3 hb4.size⟩
              rw [rowTo, HX.out, ← List.append_assoc]
              exact hown4
            case measure => simp [intOf]; omega
          · have ej : j = sn := by omega
            subst ej
            have HT := Lib.hid (text_row j l k j (Nat.le_refl _) hs1)
            clear hb3 hown3 c0 c1 f0 f1
            go_wp2_with (at_builtin; refine append_int Try.underlying22 hi hz0 hz1 hz2 (by decide) rfl _ _ rfl w1.heap.size _ _ 10 wr HO3.out rfl rfl hlen3 hsz3 ?_; intro v' w4 hown4 hb4)
            go_roundw
            case rel =>
              refine ⟨k + 1, by go_num, by omega, HG3.out.below hb4 hz, ?_, HB3.out.trans (hb4.mono (by omega)), Nat.le_trans hsz3 hb4.size⟩
              rw [Nat.add_mul, Nat.one_mul, HT.out, if_pos rfl]
              exact hown4
            case measure => simp [intOf]; omega
      · have ek : k = sn := by omega
        subst ek
        have hcv := OwnI.string hown Try.underlying22 Try.underlying5 Try.underlying9
        clear hown hb
        go_wp2
        go_ret
        exact ⟨ret_string (by rw [textOf, HR.out, HLN.out]; rfl), HB.out⟩
theorem gridText_does : GridTextDoes := fun side A c l w _ h hl hc => pText_any side A c l w h (by omega) hc
end Go.Proofs.Ytcadjfnfjakbeaa
