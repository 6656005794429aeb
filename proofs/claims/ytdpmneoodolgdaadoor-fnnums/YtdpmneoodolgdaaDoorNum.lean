/- Numbers as bytes, in the program and in its model: one Lean function says what both write. -/
import Derived.Test.YtdpmneoodolgdaaDoorRows
import Derived.Test.YtdpmneoodolgdaaDoorOwn
namespace Go.Proofs.YtdpmneoodolgdaaDoor
open Go.RowKit

/-- What a signed number folds to. -/
def foldZ (n : Int) : Int := if n < 0 then 2 * -(n + 1) + 1 else 2 * n

theorem foldZ_range {n : Int} (h0 : -9223372036854775808 ≤ n) (h1 : n ≤ 9223372036854775807) : 0 ≤ foldZ n ∧ foldZ n < 18446744073709551616 := by
  unfold foldZ; split <;> omega

theorem xor_ones (a : Nat) (h : a < 18446744073709551616) : a ^^^ 18446744073709551615 = 18446744073709551615 - a := by
  have h1 : (BitVec.ofNat 64 a ^^^ BitVec.allOnes 64).toNat = (~~~ BitVec.ofNat 64 a).toNat := by rw [BitVec.xor_allOnes]
  rw [BitVec.toNat_xor, BitVec.toNat_not, BitVec.toNat_allOnes, BitVec.toNat_ofNat] at h1
  have e : a % 2 ^ 64 = a := Nat.mod_eq_of_lt (by omega)
  rw [e] at h1
  simpa using h1

theorem fold_impl (n : Int) (h0 : -9223372036854775808 ≤ n) (h1 : n ≤ 9223372036854775807) :
    bits BinOp.xor IntKind.u64 (IntKind.u64.wrap (IntKind.u64.wrap n * 2)) (IntKind.u64.wrap (n / 9223372036854775808)) = foldZ n := by
  simp only [IntKind.wrap_u64]
  by_cases h : n < 0
  · have e1 : n % 18446744073709551616 * 2 % 18446744073709551616 = (((2 * n + 18446744073709551616).toNat : Nat) : Int) := by omega
    have e2 : n / 9223372036854775808 % 18446744073709551616 = ((18446744073709551615 : Nat) : Int) := by omega
    rw [e1, e2, bits_xor_u64_nat _ _ (by omega) (by omega), xor_ones _ (by omega)]
    unfold foldZ
    rw [if_pos h]
    omega
  · have e1 : n % 18446744073709551616 * 2 % 18446744073709551616 = (((2 * n).toNat : Nat) : Int) := by omega
    have e2 : n / 9223372036854775808 % 18446744073709551616 = ((0 : Nat) : Int) := by omega
    rw [e1, e2, bits_xor_u64_nat _ _ (by omega) (by omega), Nat.xor_zero]
    unfold foldZ
    rw [if_neg h]
    omega

/-- The bytes of a folded number. -/
def numBytes (u : Nat) : List Int := if h : u < 128 then [(u : Int)] else ((u : Int) % 128 + 128) :: numBytes (u / 128)
termination_by u
decreasing_by omega

theorem numBytes_small {u : Nat} (h : u < 128) : numBytes u = [(u : Int)] := by rw [numBytes, dif_pos h]
theorem numBytes_more {u : Nat} (h : ¬ u < 128) : numBytes u = ((u : Int) % 128 + 128) :: numBytes (u / 128) := by rw [numBytes, dif_neg h]
theorem numBytes_len : ∀ (k u : Nat), u < 128 ^ (k + 1) → (numBytes u).length ≤ k + 1
  | 0, u, h => by rw [numBytes_small (by omega)]; simp
  | k + 1, u, h => by
    by_cases hs : u < 128
    · rw [numBytes_small hs]; simp
    · rw [numBytes_more hs, List.length_cons]
      have : u / 128 < 128 ^ (k + 1) := by rw [Nat.div_lt_iff_lt_mul (by omega), ← Nat.pow_succ]; exact h
      have := numBytes_len k (u / 128) this
      omega
theorem numBytes_ten {u : Nat} (h : u < 18446744073709551616) : (numBytes u).length ≤ 10 := numBytes_len 9 u (Nat.lt_of_lt_of_le h (by decide))
theorem numBytes_pos (u : Nat) : 1 ≤ (numBytes u).length := by
  by_cases hs : u < 128
  · rw [numBytes_small hs]; simp
  · rw [numBytes_more hs]; simp

theorem or128 (x : Fin 256) : bits BinOp.or IntKind.u8 (x.val : Int) 128 = (x.val : Int) % 128 + 128 := by
  revert x; decide +kernel
theorem or128_any (u : Int) : bits BinOp.or IntKind.u8 (u % 256) 128 = u % 128 + 128 := by
  have := or128 ⟨(u % 256).toNat, by omega⟩
  simp only at this
  rw [show (((u % 256).toNat : Nat) : Int) = u % 256 from by omega] at this
  rw [this]; omega

def U64 (y : Nat) : Prop := y < 18446744073709551616
theorem U64.div {y : Nat} (h : U64 y) : U64 (y / 128) := by unfold U64 at *; omega

theorem U64.wdiv {y : Nat} (h : U64 y) : IntKind.u64.wrap ((y : Int) / 128) = ((y / 128 : Nat) : Int) := by
  unfold U64 at h
  rw [IntKind.wrap_u64]; omega

/-- The text of a number. -/
def putNumOf (n : Int) : ByteArray := strOfNums (numBytes (foldZ n).toNat)

set_option maxHeartbeats 400000 in
theorem foldSign_any (n : Int) (w : World) (h0 : -9223372036854775808 ≤ n) (h1 : n ≤ 9223372036854775807) :
    Calls Tryd.prog 20 #[.int .i64 n] w fun e w' => e = .returned (.int .u64 (foldZ n)) ∧ w = w' := by
  go_enter Tryd.func20, Tryd.ntmps20
  go_wp2
  go_ret
  exact ⟨ret_int (fold_impl n h0 h1), rfl⟩

set_option maxHeartbeats 400000 in
theorem l01Fold_any (n : Int) (w : World) (h0 : -9223372036854775808 ≤ n) (h1 : n ≤ 9223372036854775807) :
    Calls Tryd.prog 21 #[.int .i64 n] w fun e w' => e = .returned (.int .u64 (foldZ n)) ∧ w = w' := by
  by_cases h : n < 0
  · have HF : Hid (foldZ n = 2 * -(n + 1) + 1) := if_pos h
    go_enter Tryd.func21, Tryd.ntmps21
    go_wp2
    go_ret
    exact ⟨ret_int HF.out.symm, rfl⟩
  · have HF : Hid (foldZ n = 2 * n) := if_neg h
    go_enter Tryd.func21, Tryd.ntmps21
    go_wp2
    go_ret
    exact ⟨ret_int HF.out.symm, rfl⟩

theorem num_last {l : List Int} {y u : Nat} (h : l ++ numBytes y = numBytes u) (hy : y < 128) : l ++ [(y : Int)] = numBytes u := by rw [← h, numBytes_small hy]
theorem num_next {l : List Int} {y u : Nat} (h : l ++ numBytes y = numBytes u) (hy : ¬ y < 128) : (l ++ [(y : Int) % 128 + 128]) ++ numBytes (y / 128) = numBytes u := by rw [← h, numBytes_more hy]; simp
theorem num_len {l : List Int} {y u : Nat} (h : l ++ numBytes y = numBytes u) (hu : (numBytes u).length ≤ 10) : l.length < 10 := by
  have := congrArg List.length h
  have := numBytes_pos y
  simp at *; omega

set_option maxRecDepth 100000 in
set_option maxHeartbeats 400000 in
theorem putNum_impl (n : Int) (w : World) (h0 : -9223372036854775808 ≤ n) (h1 : n ≤ 9223372036854775807) :
    Calls Tryd.prog 7 #[.int .i64 n] w fun e w' => e = .returned (.string (putNumOf n)) ∧ Below w.heap.size w w' := by
  obtain ⟨i0, hi, hz0, hz1, hz2⟩ := info_parts Tryd.infoByte
  have hr := foldZ_range h0 h1
  obtain ⟨u, hu⟩ := Int.eq_ofNat_of_zero_le hr.1
  have hfs := foldSign_any n w h0 h1
  rw [hu] at hfs
  have hul : u < 18446744073709551616 := by omega
  have HP : Hid (putNumOf n = strOfNums (numBytes u)) := by show putNumOf n = _; rw [putNumOf, hu]; rfl
  have HL : Hid ((numBytes u).length ≤ 10) := numBytes_ten hul
  have HU : U64 u := hul
  clear hr hu hul
  go_enter Tryd.func7, Tryd.ntmps7
  go_wp2_with (go_at_call 20; refine hfs.mono ?_; rintro e w' ⟨rfl, rfl⟩)
  clear hfs
  go_loopw [3, 4] (fun v x wr => ∃ (y : Nat) (l : List Int), x = .int .u64 y ∧ U64 y ∧ OwnI 5 .u8 wr w.heap.size v l ∧ Hid (l ++ numBytes y = numBytes u) ∧ Below w.heap.size w wr) (fun _ x _ => (intOf x).toNat)
  case atStart => exact ⟨u, [], rfl, HU, OwnI.nil _ _ _ _, rfl, Below.refl _ _⟩
  case round =>
    obtain ⟨y, l, rfl, HY, hown, HA, hb⟩ := hrel
    have hlen := num_len HA.out HL.out
    have hbs := hb.size
    by_cases hlt : y < 128
    · go_wp2_with (at_builtin; refine append_int Tryd.underlying22 hi hz0 hz1 hz2 (by decide) rfl _ _ rfl w.heap.size _ l (y : Int) wr hown rfl rfl (by omega) hbs ?_; intro v' w1 hown1 hb1; have hcv := OwnI.string hown1 Tryd.underlying22 Tryd.underlying5 Tryd.underlying9)
      go_ret
      exact ⟨ret_string (by rw [HP.out, num_last HA.out hlt]), hb.trans hb1⟩
    · go_wp2_with (at_builtin; refine append_int Tryd.underlying22 hi hz0 hz1 hz2 (by decide) rfl _ _ rfl w.heap.size _ l _ wr hown rfl rfl (by omega) hbs ?_; intro v' w1 hown1 hb1)
      go_roundw
      case rel => exact ⟨y / 128, _, by go_num, HY.div, hown1, by rw [or128_any]; exact num_next HA.out hlt, hb.trans hb1⟩
      case measure => simp [intOf]; omega

set_option maxRecDepth 100000 in
set_option maxHeartbeats 400000 in
theorem putNum_spec (n : Int) (w : World) (h0 : -9223372036854775808 ≤ n) (h1 : n ≤ 9223372036854775807) :
    Calls Tryd.prog 8 #[.int .i64 n] w fun e w' => e = .returned (.string (putNumOf n)) ∧ Below w.heap.size w w' := by
  obtain ⟨i0, hi, hz0, hz1, hz2⟩ := info_parts Tryd.infoByte
  have hr := foldZ_range h0 h1
  obtain ⟨u, hu⟩ := Int.eq_ofNat_of_zero_le hr.1
  have hfs := l01Fold_any n w h0 h1
  rw [hu] at hfs
  have hul : u < 18446744073709551616 := by omega
  have HP : Hid (putNumOf n = strOfNums (numBytes u)) := by show putNumOf n = _; rw [putNumOf, hu]; rfl
  have HL : Hid ((numBytes u).length ≤ 10) := numBytes_ten hul
  have HU : U64 u := hul
  clear hr hu hul
  go_enter Tryd.func8, Tryd.ntmps8
  go_wp2_with (go_at_call 21; refine hfs.mono ?_; rintro e w' ⟨rfl, rfl⟩)
  clear hfs
  go_loopw [3, 4] (fun x v wr => ∃ (y : Nat) (l : List Int), x = .int .u64 y ∧ U64 y ∧ OwnI 5 .u8 wr w.heap.size v l ∧ Hid (l ++ numBytes y = numBytes u) ∧ Below w.heap.size w wr) (fun x _ _ => (intOf x).toNat)
  case atStart => exact ⟨u, [], rfl, HU, OwnI.lit [] (Nat.le_refl _) (by simp), rfl, (Below.refl _ _).alloc (Nat.le_refl _) _⟩
  case round =>
    obtain ⟨y, l, rfl, HY, hown, HA, hb⟩ := hrel
    have hlen := num_len HA.out HL.out
    have hbs := hb.size
    by_cases hlt : y < 128
    · go_wp2_with (at_builtin; refine append_int Tryd.underlying22 hi hz0 hz1 hz2 (by decide) rfl _ _ rfl w.heap.size _ l (y : Int) wr hown rfl rfl (by omega) hbs ?_; intro v' w1 hown1 hb1; have hcv := OwnI.string hown1 Tryd.underlying22 Tryd.underlying5 Tryd.underlying9)
      go_ret
      exact ⟨ret_string (by rw [HP.out, num_last HA.out hlt]), hb.trans hb1⟩
    · go_wp2_with (at_builtin; refine append_int Tryd.underlying22 hi hz0 hz1 hz2 (by decide) rfl _ _ rfl w.heap.size _ l _ wr hown rfl rfl (by omega) hbs ?_; intro v' w1 hown1 hb1)
      go_roundw
      case rel => exact ⟨y / 128, _, by rw [HY.wdiv], HY.div, hown1, num_next HA.out hlt, hb.trans hb1⟩
      case measure => rw [HY.wdiv]; simp [intOf]; omega

end Go.Proofs.YtdpmneoodolgdaaDoor
