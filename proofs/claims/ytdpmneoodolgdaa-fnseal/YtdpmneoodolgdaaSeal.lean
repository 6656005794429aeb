/- Seal of the program and of its model. -/
import Derived.Test.YtdpmneoodolgdaaCrc
import Derived.Test.YtdpmneoodolgdaaJoin
namespace Go.Proofs.Ytdpmneoodolgdaa
open Go.RowKit

def fourOf (c : Int) : ByteArray := strOfNums [c % 256, c / 256 % 256, c / 65536 % 256, c / 16777216]
theorem fourOf_size (c : Int) : (fourOf c).size = 4 := by rw [fourOf, strOfNums_size]; rfl
theorem four_string (a b c d : Int) (w : World) : (convert 22 9 (.slice (some ⟨w.heap.size, 0, none⟩) 4 4)).run Try.prog (w.alloc (.cells #[.int .u8 a, .int .u8 b, .int .u8 c, .int .u8 d] 5)) =
    .ok (.string (strOfNums [a, b, c, d])) (w.alloc (.cells #[.int .u8 a, .int .u8 b, .int .u8 c, .int .u8 d] 5)) :=
  OwnI.string (OwnI.lit (base := 0) [a, b, c, d] (Nat.zero_le _) (by simp [maxLen])) Try.underlying22 Try.underlying5 Try.underlying9

set_option maxHeartbeats 400000 in
theorem sumText_any (c : Int) (w : World) (h0 : 0 ≤ c) (h1 : c ≤ 4294967295) :
    Calls Try.prog 34 #[.int .i64 c] w fun e w' => e = .returned (.string (fourOf c)) ∧ Below w.heap.size w w' := by
  have hfs := fun x y z u => four_string x y z u w
  go_enter Try.func34, Try.ntmps34
  go_wp2
  go_ret
  exact ⟨ret_string rfl, (Below.refl _ _).alloc (Nat.le_refl _) _⟩

set_option maxHeartbeats 400000 in
theorem l01Four_any (c : Int) (w : World) (h0 : 0 ≤ c) (h1 : c ≤ 4294967295) :
    Calls Try.prog 35 #[.int .i64 c] w fun e w' => e = .returned (.string (fourOf c)) ∧ Below w.heap.size w w' := by
  have hfs := fun x y z u => four_string x y z u w
  go_enter Try.func35, Try.ntmps35
  go_wp2
  go_ret
  exact ⟨ret_string rfl, (Below.refl _ _).alloc (Nat.le_refl _) _⟩

theorem crcMoreOf_range (s : ByteArray) : 0 ≤ crcMoreOf 0 s ∧ crcMoreOf 0 s ≤ 4294967295 := by
  unfold crcMoreOf
  split
  · exact in32_bits _ _ _
  · omega
theorem crcOf_range (s : ByteArray) : 0 ≤ crcOf 0 s ∧ crcOf 0 s ≤ 4294967295 := in32_bits _ _ _
def sealOf (s : ByteArray) : ByteArray := if s.size ≤ 7996 then s ++ fourOf (crcOf 0 s) else ⟨#[]⟩

set_option maxHeartbeats 400000 in
theorem seal_impl (s : ByteArray) (w : World) :
    Calls Try.prog 12 #[.string s] w fun e w' => e = .returned (.string (sealOf s)) ∧ Below w.heap.size w w' := by
  by_cases h : s.size ≤ 7996
  · have HP : Hid (sealOf s = s ++ fourOf (crcOf 0 s)) := if_pos h
    have hc := crc_impl s w
    rw [crcMoreOf_in 0 s (by omega) (by omega) (by omega)] at hc
    have hr := crcOf_range s
    have hr0 := hr.1
    have hr1 := hr.2
    have hf := fourOf_size (crcOf 0 s)
    have HF := Lib.hid hf
    clear hr hf
    generalize crcOf 0 s = c at *
    go_enter Try.func12, Try.ntmps12
    go_wp2_with (first | (go_at_call 19; refine hc.mono ?_; rintro e w1 ⟨rfl, rfl⟩) | (go_at_call 34; refine (sumText_any c _ hr0 hr1).mono ?_; rintro e w1 ⟨rfl, hb1⟩) | (go_at_call 33; refine (join_two s (fourOf c) _ (by rw [HF.out]; omega)).mono ?_; rintro e w2 ⟨rfl, hb2⟩))
    go_ret
    exact ⟨ret_string HP.out.symm, hb1.trans (hb2.mono hb1.size)⟩
  · have HP : Hid (sealOf s = ⟨#[]⟩) := if_neg h
    go_enter Try.func12, Try.ntmps12
    go_wp2_with fail
    go_ret
    exact ⟨ret_string HP.out.symm, Below.refl _ _⟩

set_option maxHeartbeats 400000 in
theorem seal_spec (s : ByteArray) (w : World) :
    Calls Try.prog 13 #[.string s] w fun e w' => e = .returned (.string (sealOf s)) ∧ Below w.heap.size w w' := by
  by_cases h : s.size ≤ 7996
  · have HP : Hid (sealOf s = s ++ fourOf (crcOf 0 s)) := if_pos h
    have hc := l01Crc_spec 0 s w (by omega) (by omega) (by omega)
    have hr := crcOf_range s
    have hr0 := hr.1
    have hr1 := hr.2
    have hf := fourOf_size (crcOf 0 s)
    have hf1 : (fourOf (crcOf 0 s)).size ≤ 4 := by omega
    clear hr hf
    generalize crcOf 0 s = c at *
    have hs4 := fun w => l01Four_any c w hr0 hr1
    generalize fourOf c = f at *
    go_enter Try.func13, Try.ntmps13
    go_wp2_with (first | (go_at_call 36; refine hc.mono ?_; rintro e w1 ⟨rfl, rfl⟩) | (go_at_call 35; refine (hs4 _).mono ?_; rintro e w1 ⟨rfl, hb1⟩))
    go_ret
    exact ⟨ret_string HP.out.symm, hb1⟩
  · have HP : Hid (sealOf s = ⟨#[]⟩) := if_neg h
    go_enter Try.func13, Try.ntmps13
    go_wp2_with fail
    go_ret
    exact ⟨ret_string HP.out.symm, Below.refl _ _⟩

end Go.Proofs.Ytdpmneoodolgdaa
