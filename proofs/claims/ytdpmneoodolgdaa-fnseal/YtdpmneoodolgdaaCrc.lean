/- The CRC of the program and of its model: one Lean function says what both answer. -/
import Derived.Test.YtdpmneoodolgdaaRows
import Derived.Test.YtdpmneoodolgdaaBase
namespace Go.Proofs.Ytdpmneoodolgdaa
open Go.RowKit

/-- One bit of the register's way. -/
def crc1 (q : Int) : Int := if bits BinOp.and IntKind.u32 q 1 == 1 then bits BinOp.xor IntKind.u32 (q / 2) 3988292384 else q / 2
def crcK : Nat → Int → Int
  | 0, q => q
  | k + 1, q => crc1 (crcK k q)
/-- One byte. -/
def crcB (r b : Int) : Int := crcK 8 (bits BinOp.xor IntKind.u32 r b)
def crcTo (s : ByteArray) (r : Int) : Nat → Int
  | 0 => r
  | k + 1 => crcB (crcTo s r k) (byteAt s k)
def crcOf (c : Int) (s : ByteArray) : Int := bits BinOp.xor IntKind.u32 (crcTo s (bits BinOp.xor IntKind.u32 c 4294967295) s.size) 4294967295

theorem crc1_yes {q : Int} (h : (bits BinOp.and IntKind.u32 q 1 == 1) = true) : bits BinOp.xor IntKind.u32 (q / 2) 3988292384 = crc1 q := by rw [crc1, if_pos h]
theorem crc1_no {q : Int} (h : (bits BinOp.and IntKind.u32 q 1 == 1) = false) : q / 2 = crc1 q := by rw [crc1, if_neg (by simp [h])]
def In32 (q : Int) : Prop := 0 ≤ q ∧ q ≤ 4294967295
theorem in32_bits (o : BinOp) (a b : Int) : In32 (bits o .u32 a b) := bits_within o .u32 a b
theorem wrap_bits32 (o : BinOp) (a b : Int) : wrap64 (bits o .u32 a b) = bits o .u32 a b := by
  have := in32_bits o a b
  unfold In32 at this
  exact wrap64_in (by omega) (by omega)
theorem in32_crc1 {q : Int} (h : In32 q) : In32 (crc1 q) := by
  unfold crc1
  split
  · exact in32_bits _ _ _
  · unfold In32 at *; omega
theorem in32_crcK {q : Int} (h : In32 q) : ∀ k, In32 (crcK k q)
  | 0 => h
  | k + 1 => in32_crc1 (in32_crcK h k)
theorem in32_crcB (r b : Int) : In32 (crcB r b) := in32_crcK (in32_bits _ _ _) 8
theorem in32_crcTo (s : ByteArray) {r : Int} (h : In32 r) : ∀ k, In32 (crcTo s r k)
  | 0 => h
  | _ + 1 => in32_crcB _ _

set_option maxHeartbeats 400000 in
theorem crcByte_any (r b : Int) (w : World) (hb0 : 0 ≤ b) (hb : b ≤ 255) :
    Calls Try.prog 38 #[.int .u32 r, .int .u8 b] w fun e w' => e = .returned (.int .u32 (crcB r b)) ∧ w = w' := by
  go_enter Try.func38, Try.ntmps38
  go_wp2
  go_loop [0, 5, 10] (fun q l i => ∃ k : Nat, k ≤ 8 ∧ i = .int .i64 k ∧ q = .int .u32 (crcK k (bits BinOp.xor IntKind.u32 r b))) (fun _ _ i => 8 - (intOf i).toNat)
  case atStart => exact ⟨0, by omega, rfl, rfl⟩
  case round =>
    obtain ⟨k, hk, rfl, rfl⟩ := hrel
    generalize hq : crcK k (bits BinOp.xor IntKind.u32 r b) = q
    have HQ := Lib.hid hq
    clear hq
    by_cases hlt : k < 8
    · go_wp2
      · go_round
        case rel => exact ⟨k + 1, by omega, by go_num, by rw [crcK, HQ.out, crc1_yes ‹_›]⟩
        case measure => simp [intOf]; omega
      · go_round
        case rel => exact ⟨k + 1, by omega, by go_num, by rw [crcK, HQ.out, crc1_no ‹_›]⟩
        case measure => simp [intOf]; omega
    · go_wp2
      go_ret
      obtain rfl : k = 8 := by omega
      exact ⟨ret_int HQ.out.symm, rfl⟩

set_option maxHeartbeats 400000 in
theorem crcMore_impl (c : Int) (s : ByteArray) (w : World) (h0 : 0 ≤ c) (h1 : c ≤ 4294967295) (h2 : s.size ≤ 8000) :
    Calls Try.prog 17 #[.int .i64 c, .string s] w fun e w' => e = .returned (.int .i64 (crcOf c s)) ∧ w = w' := by
  have e0 : decide (8000 < (s.size : Int)) = false := by simp; omega
  have e1 : decide (c < 0) = false := by simp; omega
  have e2 : decide (4294967295 < c) = false := by simp; omega
  go_enter Try.func17, Try.ntmps17
  go_wp2
  go_loop [5, 6] (fun q i => ∃ k : Nat, k ≤ s.size ∧ i = .int .i64 k ∧ q = .int .u32 (crcTo s (bits BinOp.xor IntKind.u32 c 4294967295) k)) (fun _ i => s.size - (intOf i).toNat)
  case atStart => exact ⟨0, by omega, rfl, by rw [bits_xor_comm]; rfl⟩
  case round =>
    obtain ⟨k, hk, rfl, rfl⟩ := hrel
    have hin := in32_crcTo s (in32_bits .xor c 4294967295) k
    generalize hq : crcTo s (bits BinOp.xor IntKind.u32 c 4294967295) k = q at *
    have HQ := Lib.hid hq
    clear hq
    have hq0 := hin.1
    have hq1 := hin.2
    clear hin
    by_cases hlt : k < s.size
    · have hbk := byteAt_eq s k hlt
      have hbr := byteAt_range s k
      rw [hbk] at hbr
      have HB := Lib.hid hbk
      have hb0 := hbr.1
      have hb1 := hbr.2
      clear hbk hbr
      go_wp2_with (go_at_call 38; refine (crcByte_any q _ _ hb0 hb1).mono ?_; rintro e w' ⟨rfl, rfl⟩)
      go_round
      case rel => exact ⟨k + 1, by omega, by go_num, by rw [crcTo, HQ.out, HB.out]⟩
      case measure => simp [intOf]; omega
    · obtain rfl : k = s.size := by omega
      go_wp2
      go_ret
      exact ⟨ret_int (by rw [crcOf, HQ.out, bits_xor_comm, wrap_bits32]; rfl), rfl⟩

set_option maxHeartbeats 1000000 in
theorem l01Crc_spec (c : Int) (s : ByteArray) (w : World) (h0 : 0 ≤ c) (h1 : c ≤ 4294967295) (h2 : s.size ≤ 8000) :
    Calls Try.prog 36 #[.int .i64 c, .string s] w fun e w' => e = .returned (.int .i64 (crcOf c s)) ∧ w = w' := by
  go_enter Try.func36, Try.ntmps36
  go_wp2
  go_loop [5, 6, 7] (fun q i _ => ∃ k : Nat, k ≤ s.size ∧ i = .int .i64 k ∧ q = .int .u32 (crcTo s (bits BinOp.xor IntKind.u32 c 4294967295) k)) (fun _ i _ => s.size - (intOf i).toNat)
  case atStart => exact ⟨0, by omega, rfl, rfl⟩
  case round =>
    obtain ⟨k, hk, rfl, rfl⟩ := hrel
    have hin := in32_crcTo s (in32_bits .xor c 4294967295) k
    generalize hq : crcTo s (bits BinOp.xor IntKind.u32 c 4294967295) k = q at *
    have HQ := Lib.hid hq
    clear hq
    have hq0 := hin.1
    have hq1 := hin.2
    clear hin
    by_cases hlt : k < s.size
    · have hbk := byteAt_eq s k hlt
      have hbr := byteAt_range s k
      rw [hbk] at hbr
      have HB := Lib.hid hbk
      have hb0 := hbr.1
      have hb1 := hbr.2
      clear hbk hbr
      go_wp2
      go_loop [5, 7] (fun x j => ∃ m : Nat, m ≤ 8 ∧ j = .int .i64 m ∧ x = .int .u32 (crcK m (bits BinOp.xor IntKind.u32 q (s[k].toNat : Int)))) (fun _ j => 8 - (intOf j).toNat)
      case atStart => exact ⟨0, by omega, rfl, rfl⟩
      case round =>
        obtain ⟨m, hm, rfl, rfl⟩ := hrel
        generalize hx : crcK m (bits BinOp.xor IntKind.u32 q (s[k].toNat : Int)) = x
        have HX := Lib.hid hx
        clear hx
        by_cases hml : m < 8
        · go_wp2
          · go_round
            case rel => exact ⟨m + 1, by omega, by go_num, by rw [crcK, HX.out, crc1_yes ‹_›]⟩
            case measure => simp [intOf]; omega
          · go_round
            case rel => exact ⟨m + 1, by omega, by go_num, by rw [crcK, HX.out, crc1_no ‹_›]⟩
            case measure => simp [intOf]; omega
        · obtain rfl : m = 8 := by omega
          go_wp2
          go_round
          case rel => exact ⟨k + 1, by omega, by go_num, by rw [crcTo, HQ.out, HB.out, crcB, HX.out]⟩
          case measure => simp [intOf]; omega
    · obtain rfl : k = s.size := by omega
      go_wp2
      go_ret
      exact ⟨ret_int (by rw [crcOf, HQ.out, wrap_bits32]), rfl⟩

def crcMoreOf (c : Int) (s : ByteArray) : Int := if s.size ≤ 8000 ∧ 0 ≤ c ∧ c ≤ 4294967295 then crcOf c s else 0
theorem crcMoreOf_in (c : Int) (s : ByteArray) (h0 : 0 ≤ c) (h1 : c ≤ 4294967295) (h2 : s.size ≤ 8000) : crcMoreOf c s = crcOf c s := if_pos ⟨h2, h0, h1⟩
theorem crcMoreOf_out (c : Int) (s : ByteArray) (h : ¬ (s.size ≤ 8000 ∧ 0 ≤ c ∧ c ≤ 4294967295)) : crcMoreOf c s = 0 := if_neg h

set_option maxHeartbeats 400000 in
theorem crcMore_implAll (c : Int) (s : ByteArray) (w : World) :
    Calls Try.prog 17 #[.int .i64 c, .string s] w fun e w' => e = .returned (.int .i64 (crcMoreOf c s)) ∧ w = w' := by
  by_cases h2 : s.size ≤ 8000
  · by_cases h0 : 0 ≤ c
    · by_cases h1 : c ≤ 4294967295
      · rw [crcMoreOf_in c s h0 h1 h2]
        exact crcMore_impl c s w h0 h1 h2
      · have HN : Hid (crcMoreOf c s = 0) := crcMoreOf_out c s (by omega)
        go_enter Try.func17, Try.ntmps17
        go_wp2
        go_ret
        exact ⟨ret_int HN.out.symm, rfl⟩
    · have HN : Hid (crcMoreOf c s = 0) := crcMoreOf_out c s (by omega)
      go_enter Try.func17, Try.ntmps17
      go_wp2
      go_ret
      exact ⟨ret_int HN.out.symm, rfl⟩
  · have HN : Hid (crcMoreOf c s = 0) := crcMoreOf_out c s (by omega)
    go_enter Try.func17, Try.ntmps17
    go_wp2
    go_ret
    exact ⟨ret_int HN.out.symm, rfl⟩

set_option maxHeartbeats 400000 in
theorem crcMore_specAll (c : Int) (s : ByteArray) (w : World) :
    Calls Try.prog 18 #[.int .i64 c, .string s] w fun e w' => e = .returned (.int .i64 (crcMoreOf c s)) ∧ w = w' := by
  by_cases h2 : s.size ≤ 8000
  · by_cases h0 : 0 ≤ c
    · by_cases h1 : c ≤ 4294967295
      · have HN : Hid (crcMoreOf c s = crcOf c s) := crcMoreOf_in c s h0 h1 h2
        go_enter Try.func18, Try.ntmps18
        go_wp2_with (go_at_call 36; refine (l01Crc_spec c s _ h0 h1 h2).mono ?_; rintro e w' ⟨rfl, rfl⟩)
        go_ret
        exact ⟨ret_int HN.out.symm, rfl⟩
      · have HN : Hid (crcMoreOf c s = 0) := crcMoreOf_out c s (by omega)
        go_enter Try.func18, Try.ntmps18
        go_wp2
        go_ret
        exact ⟨ret_int HN.out.symm, rfl⟩
    · have HN : Hid (crcMoreOf c s = 0) := crcMoreOf_out c s (by omega)
      go_enter Try.func18, Try.ntmps18
      go_wp2
      go_ret
      exact ⟨ret_int HN.out.symm, rfl⟩
  · have HN : Hid (crcMoreOf c s = 0) := crcMoreOf_out c s (by omega)
    go_enter Try.func18, Try.ntmps18
    go_wp2
    go_ret
    exact ⟨ret_int HN.out.symm, rfl⟩

set_option maxHeartbeats 400000 in
theorem crc_impl (s : ByteArray) (w : World) :
    Calls Try.prog 19 #[.string s] w fun e w' => e = .returned (.int .i64 (crcMoreOf 0 s)) ∧ w = w' := by
  go_enter Try.func19, Try.ntmps19
  go_wp2_with (go_at_call 17; refine (crcMore_implAll 0 s _).mono ?_; rintro e w' ⟨rfl, rfl⟩)
  go_ret
  exact ⟨rfl, rfl⟩

set_option maxHeartbeats 400000 in
theorem crc_spec (s : ByteArray) (w : World) :
    Calls Try.prog 26 #[.string s] w fun e w' => e = .returned (.int .i64 (crcMoreOf 0 s)) ∧ w = w' := by
  by_cases h2 : s.size ≤ 8000
  · have HN : Hid (crcMoreOf 0 s = crcOf 0 s) := crcMoreOf_in 0 s (by omega) (by omega) h2
    go_enter Try.func26, Try.ntmps26
    go_wp2_with (go_at_call 36; refine (l01Crc_spec 0 s _ (by omega) (by omega) h2).mono ?_; rintro e w' ⟨rfl, rfl⟩)
    go_ret
    exact ⟨ret_int HN.out.symm, rfl⟩
  · have HN : Hid (crcMoreOf 0 s = 0) := crcMoreOf_out 0 s (by omega)
    go_enter Try.func26, Try.ntmps26
    go_wp2
    go_ret
    exact ⟨ret_int HN.out.symm, rfl⟩

end Go.Proofs.Ytdpmneoodolgdaa
