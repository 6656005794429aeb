/- The name checks of the program and of its model: one Lean function says what both answer. -/
import Derived.Test.YtdpmneoodolgdaaRows
import Derived.Test.YtdpmneoodolgdaaBase
namespace Go.Proofs.Ytdpmneoodolgdaa
open Go.RowKit

def isLow (n : Int) : Bool := decide (97 ≤ n ∧ n ≤ 122)
def isRest (n : Int) : Bool := isLow n || decide (48 ≤ n ∧ n ≤ 57) || decide (n = 95)

set_option maxHeartbeats 400000 in
theorem small_any (n : Int) (w : World) :
    Calls Try.prog 41 #[.int .u8 n] w fun e w' => e = .returned (.bool (isLow n)) ∧ w = w' := by
  by_cases h1 : 97 ≤ n
  · by_cases h2 : n ≤ 122
    all_goals
      go_enter Try.func41, Try.ntmps41
      go_wp2
      go_ret
      exact ⟨ret_bool (by simp [isLow]; omega), rfl⟩
  · go_enter Try.func41, Try.ntmps41
    go_wp2
    go_ret
    exact ⟨ret_bool (by simp [isLow]; omega), rfl⟩

set_option maxHeartbeats 400000 in
theorem nameByte_any (n : Int) (w : World) :
    Calls Try.prog 42 #[.int .u8 n] w fun e w' => e = .returned (.bool (isRest n)) ∧ w = w' := by
  have hsm := small_any n
  cases hl : isLow n
  · rw [hl] at hsm
    have HL : Hid (isLow n = false) := hl
    clear hl
    by_cases h1 : 48 ≤ n
    · by_cases h2 : n ≤ 57
      · go_enter Try.func42, Try.ntmps42
        go_wp2_with (go_at_call 41; refine (hsm _).mono ?_; rintro e w' ⟨rfl, rfl⟩)
        go_ret
        exact ⟨ret_bool (by simp [isRest, HL.out]; omega), rfl⟩
      · have hd2 : decide (n ≤ 57) = false := by simpa using h2
        cases h3 : (n == 95)
        all_goals
          have H3 : Hid (isRest n = (n == 95)) := by
            show isRest n = (n == 95)
            rw [isRest, HL.out, Bool.eq_iff_iff]; simp; omega
          rw [h3] at H3
          go_enter Try.func42, Try.ntmps42
          go_wp2_with (go_at_call 41; refine (hsm _).mono ?_; rintro e w' ⟨rfl, rfl⟩)
          go_ret
          exact ⟨ret_bool H3.out.symm, rfl⟩
    · cases h3 : (n == 95)
      all_goals
        have H3 : Hid (isRest n = (n == 95)) := by
          show isRest n = (n == 95)
          rw [isRest, HL.out, Bool.eq_iff_iff]; simp; omega
        rw [h3] at H3
        go_enter Try.func42, Try.ntmps42
        go_wp2_with (go_at_call 41; refine (hsm _).mono ?_; rintro e w' ⟨rfl, rfl⟩)
        go_ret
        exact ⟨ret_bool H3.out.symm, rfl⟩
  · rw [hl] at hsm
    have HL : Hid (isLow n = true) := hl
    clear hl
    go_enter Try.func42, Try.ntmps42
    go_wp2_with (go_at_call 41; refine (hsm _).mono ?_; rintro e w' ⟨rfl, rfl⟩)
    go_ret
    exact ⟨ret_bool (by simp [isRest, HL.out]), rfl⟩

def okAt (s : ByteArray) (k : Nat) : Bool := if k = 0 then isLow (byteAt s k) else isRest (byteAt s k)
theorem okAt_iff (s : ByteArray) (k : Nat) : okAt s k = decide ((97 ≤ byteAt s k ∧ byteAt s k ≤ 122) ∨ (k ≠ 0 ∧ ((48 ≤ byteAt s k ∧ byteAt s k ≤ 57) ∨ byteAt s k = 95))) := by
  unfold okAt
  by_cases h : k = 0
  · rw [if_pos h, Bool.eq_iff_iff]; simp [isLow]; omega
  · rw [if_neg h, Bool.eq_iff_iff]; simp [isRest, isLow]; omega
def okTo (s : ByteArray) (k : Nat) : Prop := ∀ i, i < k → okAt s i = true
def nameOk (s : ByteArray) : Bool := decide (1 ≤ s.size ∧ s.size ≤ 20) && (List.range s.size).all (okAt s)

theorem nameOk_true (s : ByteArray) (h1 : 1 ≤ s.size) (h2 : s.size ≤ 20) (h : okTo s s.size) : nameOk s = true := by
  simp [nameOk, h1, h2]; intro x hx; exact h x hx
theorem nameOk_false (s : ByteArray) (k : Nat) (hk : k < s.size) (h : okAt s k = false) : nameOk s = false := by
  have : (List.range s.size).all (okAt s) = false := by
    rw [List.all_eq_false]; exact ⟨k, by simpa using hk, by simp [h]⟩
  simp [nameOk, this]
theorem nameOk_size (s : ByteArray) (h : s.size < 1 ∨ 20 < s.size) : nameOk s = false := by
  simp [nameOk]; omega

set_option maxHeartbeats 400000 in
theorem name_impl (s : ByteArray) (w : World) (hs : s.size ≤ maxLen) :
    Calls Try.prog 25 #[.string s] w fun e w' => e = .returned (.bool (nameOk s)) ∧ w = w' := by
  unfold maxLen at hs
  by_cases h1 : s.size < 1
  · go_enter Try.func25, Try.ntmps25
    go_wp2_with fail
    go_ret
    exact ⟨ret_bool (nameOk_size s (by omega)).symm, rfl⟩
  by_cases h2 : 20 < s.size
  · go_enter Try.func25, Try.ntmps25
    go_wp2_with fail
    go_ret
    exact ⟨ret_bool (nameOk_size s (by omega)).symm, rfl⟩
  have hb0 := byteAt_eq s 0 (by omega)
  cases h3 : isLow (s[0].toNat : Int)
  · have hsm := small_any (s[0].toNat : Int)
    rw [h3] at hsm
    have H : Hid (okAt s 0 = false) := by show okAt s 0 = false; simp [okAt, hb0, h3]
    clear hb0 h3
    go_enter Try.func25, Try.ntmps25
    go_wp2_with (go_at_call 41; refine (hsm _).mono ?_; rintro e w' ⟨rfl, rfl⟩)
    go_ret
    exact ⟨ret_bool (nameOk_false s 0 (by omega) H.out).symm, rfl⟩
  · have hsm := small_any (s[0].toNat : Int)
    rw [h3] at hsm
    have H : Hid (okAt s 0 = true) := by show okAt s 0 = true; simp [okAt, hb0, h3]
    clear hb0 h3
    go_enter Try.func25, Try.ntmps25
    go_wp2_with (go_at_call 41; refine (hsm _).mono ?_; rintro e w' ⟨rfl, rfl⟩)
    go_loop [3] (fun i => ∃ k : Nat, 1 ≤ k ∧ k ≤ s.size ∧ i = .int .i64 k ∧ okTo s k) (fun i => s.size - (intOf i).toNat)
    case atStart => exact ⟨1, by omega, by omega, rfl, fun i hi => by obtain rfl : i = 0 := by omega
                                                                      exact H.out⟩
    case round =>
      obtain ⟨k, hk1, hk, rfl, hto⟩ := hrel
      have HT := Lib.hid hto
      clear hto hsm
      by_cases hlt : k < s.size
      · have hnb := nameByte_any (s[k].toNat : Int)
        have hbk := byteAt_eq s k hlt
        cases h4 : isRest (s[k].toNat : Int)
        · rw [h4] at hnb
          have HK : Hid (okAt s k = false) := by show okAt s k = false; rw [okAt, if_neg (by omega), hbk, h4]
          clear h4 hbk
          go_wp2_with (go_at_call 42; refine (hnb _).mono ?_; rintro e w' ⟨rfl, rfl⟩)
          go_ret
          exact ⟨ret_bool (nameOk_false s k hlt HK.out).symm, rfl⟩
        · rw [h4] at hnb
          have HK : Hid (okAt s k = true) := by show okAt s k = true; rw [okAt, if_neg (by omega), hbk, h4]
          clear h4 hbk
          go_wp2_with (go_at_call 42; refine (hnb _).mono ?_; rintro e w' ⟨rfl, rfl⟩)
          go_round
          case rel => exact ⟨k + 1, by omega, by omega, by go_num, fun i hi => if e : i = k then e ▸ HK.out else HT.out i (by omega)⟩
          case measure => simp [intOf]; omega
      · go_wp2
        go_ret
        obtain rfl : k = s.size := by omega
        exact ⟨ret_bool (nameOk_true s (by omega) (by omega) HT.out).symm, rfl⟩

set_option maxHeartbeats 1000000 in
theorem name_spec (s : ByteArray) (w : World) (hs : s.size ≤ maxLen) :
    Calls Try.prog 24 #[.string s] w fun e w' => e = .returned (.bool (nameOk s)) ∧ w = w' := by
  unfold maxLen at hs
  by_cases h1 : s.size < 1
  · go_enter Try.func24, Try.ntmps24
    go_wp2_with fail
    go_ret
    exact ⟨ret_bool (nameOk_size s (by omega)).symm, rfl⟩
  by_cases h2 : 20 < s.size
  · go_enter Try.func24, Try.ntmps24
    go_wp2_with fail
    go_ret
    exact ⟨ret_bool (nameOk_size s (by omega)).symm, rfl⟩
  go_enter Try.func24, Try.ntmps24
  go_wp2
  go_loop [3] (fun i => ∃ k : Nat, k ≤ s.size ∧ i = .int .i64 k ∧ okTo s k) (fun i => s.size - (intOf i).toNat)
  case atStart => exact ⟨0, by omega, rfl, fun i hi => by omega⟩
  case round =>
    obtain ⟨k, hk, rfl, hto⟩ := hrel
    have HT := Lib.hid hto
    clear hto
    by_cases hlt : k < s.size
    · have hbk := byteAt_eq s k hlt
      by_cases h1 : 97 ≤ (s[k].toNat : Int)
      · by_cases h2 : (s[k].toNat : Int) ≤ 122
        · have hd2 : decide ((s[k].toNat : Int) ≤ 122) = true := by simpa using h2
          have HK : Hid (okAt s k = true) := by show okAt s k = true; rw [okAt_iff, hbk]; exact decide_eq_true (by omega)
          clear hbk
          go_wp2
          go_round
          case rel => exact ⟨k + 1, by omega, by go_num, fun i hi => if e : i = k then e ▸ HK.out else HT.out i (by omega)⟩
          case measure => simp [intOf]; omega
        · have hd2 : decide ((s[k].toNat : Int) ≤ 122) = false := by simpa using h2
          cases hz : ((k : Int) == 0)
          · have hk0 : k ≠ 0 := by simpa using hz
            by_cases h3 : 48 ≤ (s[k].toNat : Int)
            · by_cases h4 : (s[k].toNat : Int) ≤ 57
              · have hd4 : decide ((s[k].toNat : Int) ≤ 57) = true := by simpa using h4
                have HK : Hid (okAt s k = true) := by show okAt s k = true; rw [okAt_iff, hbk]; exact decide_eq_true (by omega)
                clear hbk
                go_wp2
                go_round
                case rel => exact ⟨k + 1, by omega, by go_num, fun i hi => if e : i = k then e ▸ HK.out else HT.out i (by omega)⟩
                case measure => simp [intOf]; omega
              · have hd4 : decide ((s[k].toNat : Int) ≤ 57) = false := by simpa using h4
                cases h5 : ((s[k].toNat : Int) != 95)
                · have h5n : (s[k].toNat : Int) = 95 := by simpa using h5
                  have H5 := Lib.hid h5n
                  have HK : Hid (okAt s k = true) := by show okAt s k = true; rw [okAt_iff, hbk]; exact decide_eq_true (by have := H5.out; omega)
                  clear hbk h5n
                  go_wp2
                  go_round
                  case rel => exact ⟨k + 1, by omega, by go_num, fun i hi => if e : i = k then e ▸ HK.out else HT.out i (by omega)⟩
                  case measure => simp [intOf]; omega
                · have h5n : ¬ (s[k].toNat : Int) = 95 := by simpa using h5
                  have HK : Hid (okAt s k = false) := by show okAt s k = false; rw [okAt_iff, hbk]; exact decide_eq_false (by omega)
                  clear hbk
                  go_wp2
                  go_ret
                  exact ⟨ret_bool (nameOk_false s k hlt HK.out).symm, rfl⟩
            · have hd3 : decide (48 ≤ (s[k].toNat : Int)) = false := by simpa using h3
              cases h5 : ((s[k].toNat : Int) != 95)
              · have h5n : (s[k].toNat : Int) = 95 := by simpa using h5
                have H5 := Lib.hid h5n
                have HK : Hid (okAt s k = true) := by show okAt s k = true; rw [okAt_iff, hbk]; exact decide_eq_true (by have := H5.out; omega)
                clear hbk h5n
                go_wp2
                go_round
                case rel => exact ⟨k + 1, by omega, by go_num, fun i hi => if e : i = k then e ▸ HK.out else HT.out i (by omega)⟩
                case measure => simp [intOf]; omega
              · have h5n : ¬ (s[k].toNat : Int) = 95 := by simpa using h5
                have HK : Hid (okAt s k = false) := by show okAt s k = false; rw [okAt_iff, hbk]; exact decide_eq_false (by omega)
                clear hbk
                go_wp2
                go_ret
                exact ⟨ret_bool (nameOk_false s k hlt HK.out).symm, rfl⟩
          · have hk0 : k = 0 := by simpa using hz
            subst hk0
            have HK : Hid (okAt s 0 = false) := by show okAt s 0 = false; rw [okAt_iff, hbk]; exact decide_eq_false (by omega)
            clear hbk
            go_wp2
            go_ret
            exact ⟨ret_bool (nameOk_false s 0 hlt HK.out).symm, rfl⟩
      · have hd1 : decide (97 ≤ (s[k].toNat : Int)) = false := by simpa using h1
        cases hz : ((k : Int) == 0)
        · have hk0 : k ≠ 0 := by simpa using hz
          by_cases h3 : 48 ≤ (s[k].toNat : Int)
          · by_cases h4 : (s[k].toNat : Int) ≤ 57
            · have hd4 : decide ((s[k].toNat : Int) ≤ 57) = true := by simpa using h4
              have HK : Hid (okAt s k = true) := by show okAt s k = true; rw [okAt_iff, hbk]; exact decide_eq_true (by omega)
              clear hbk
              go_wp2
              go_round
              case rel => exact ⟨k + 1, by omega, by go_num, fun i hi => if e : i = k then e ▸ HK.out else HT.out i (by omega)⟩
              case measure => simp [intOf]; omega
            · have hd4 : decide ((s[k].toNat : Int) ≤ 57) = false := by simpa using h4
              cases h5 : ((s[k].toNat : Int) != 95)
              · have h5n : (s[k].toNat : Int) = 95 := by simpa using h5
                have H5 := Lib.hid h5n
                have HK : Hid (okAt s k = true) := by show okAt s k = true; rw [okAt_iff, hbk]; exact decide_eq_true (by have := H5.out; omega)
                clear hbk h5n
                go_wp2
                go_round
                case rel => exact ⟨k + 1, by omega, by go_num, fun i hi => if e : i = k then e ▸ HK.out else HT.out i (by omega)⟩
                case measure => simp [intOf]; omega
              · have h5n : ¬ (s[k].toNat : Int) = 95 := by simpa using h5
                have HK : Hid (okAt s k = false) := by show okAt s k = false; rw [okAt_iff, hbk]; exact decide_eq_false (by omega)
                clear hbk
                go_wp2
                go_ret
                exact ⟨ret_bool (nameOk_false s k hlt HK.out).symm, rfl⟩
          · have hd3 : decide (48 ≤ (s[k].toNat : Int)) = false := by simpa using h3
            cases h5 : ((s[k].toNat : Int) != 95)
            · have h5n : (s[k].toNat : Int) = 95 := by simpa using h5
              have H5 := Lib.hid h5n
              have HK : Hid (okAt s k = true) := by show okAt s k = true; rw [okAt_iff, hbk]; exact decide_eq_true (by have := H5.out; omega)
              clear hbk h5n
              go_wp2
              go_round
              case rel => exact ⟨k + 1, by omega, by go_num, fun i hi => if e : i = k then e ▸ HK.out else HT.out i (by omega)⟩
              case measure => simp [intOf]; omega
            · have h5n : ¬ (s[k].toNat : Int) = 95 := by simpa using h5
              have HK : Hid (okAt s k = false) := by show okAt s k = false; rw [okAt_iff, hbk]; exact decide_eq_false (by omega)
              clear hbk
              go_wp2
              go_ret
              exact ⟨ret_bool (nameOk_false s k hlt HK.out).symm, rfl⟩
        · have hk0 : k = 0 := by simpa using hz
          subst hk0
          have HK : Hid (okAt s 0 = false) := by show okAt s 0 = false; rw [okAt_iff, hbk]; exact decide_eq_false (by omega)
          clear hbk
          go_wp2
          go_ret
          exact ⟨ret_bool (nameOk_false s 0 hlt HK.out).symm, rfl⟩
    · go_wp2
      go_ret
      obtain rfl : k = s.size := by omega
      exact ⟨ret_bool (nameOk_true s (by omega) (by omega) HT.out).symm, rfl⟩

end Go.Proofs.Ytdpmneoodolgdaa
