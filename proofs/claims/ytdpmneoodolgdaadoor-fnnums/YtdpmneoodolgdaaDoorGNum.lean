/- Numbers read from bytes: the program's faults by their code. -/
import Derived.Test.YtdpmneoodolgdaaDoorNum
import Derived.Test.YtdpmneoodolgdaaDoorAsBh
import Derived.Test.YtdpmneoodolgdaaDoorGoto
namespace Go.Proofs.YtdpmneoodolgdaaDoor
open Go.RowKit

def HasErr (w : World) : Prop := w.cell? ⟨0, 0, none⟩ = some (.iface 76 (.agg #[.pointer (some ⟨1, 44, none⟩)]))
theorem HasErr.pos {w : World} (h : HasErr w) : 0 < w.heap.size := World.block_lt_of_cell? w ⟨0, 0, none⟩ h
theorem HasErr.below {w w' : World} (h : HasErr w) (hb : Below w.heap.size w w') : HasErr w' := (hb.cell (p := ⟨0, 0, none⟩) h.pos).trans h
theorem HasErr.alloc {w : World} (h : HasErr w) (o : Obj) : HasErr (w.alloc o) := (World.cell?_alloc_lt _ _ ⟨0, 0, none⟩ h.pos).trans h

set_option maxHeartbeats 400000 in
theorem faultCode_nil (w : World) :
    Calls Tryd.prog 23 #[.nilIface] w fun e w' => e = .returned (.int .i64 0) ∧ Below w.heap.size w w' := by
  go_enter Tryd.func23, Tryd.ntmps23
  go_wp2_with (go_at_call 31; refine (as_nil _ _).mono ?_; rintro e w' ⟨rfl, rfl⟩)
  go_ret
  exact ⟨rfl, (Below.refl _ _).alloc (Nat.le_refl _) _⟩

set_option maxHeartbeats 400000 in
theorem faultCode_hit (c : Int) (w : World) (hg : HasErr w) :
    Calls Tryd.prog 23 #[.iface 56 (.agg #[.int .i64 c])] w fun e w' => e = .returned (.int .i64 c) ∧ Below w.heap.size w w' := by
  have hgA : (w.alloc (.cells #[.int .i64 0] 56)).cell? ⟨0, 0, none⟩ = some (.iface 76 (.agg #[.pointer (some ⟨1, 44, none⟩)])) := hg.alloc _
  have htA : (w.alloc (.cells #[.int .i64 0] 56)).cell? ⟨w.heap.size, 0, none⟩ = some (.int .i64 0) := by simp
  have hfA : (w.alloc (.cells #[.int .i64 0] 56)).frozen? ⟨w.heap.size, 0, none⟩ = false := by simp
  go_enter Tryd.func23, Tryd.ntmps23
  go_wp2_with (go_at_call 31; refine (as_hit c _ (.int .i64 0) _ hgA htA hfA).mono ?_; rintro e w' ⟨rfl, rfl⟩)
  go_ret
  exact ⟨rfl, (((((Below.refl _ _).alloc (Nat.le_refl _) _).alloc (by simp) _).alloc (by simp; omega) _).alloc (by simp; omega) _).alloc (by simp; omega) _⟩

/-- What a folded number unfolds to. -/
def unfoldZ (u : Nat) : Int := if u % 2 = 1 then -((u / 2 : Nat) : Int) - 1 else ((u / 2 : Nat) : Int)
def byteN (s : ByteArray) (k : Nat) : Nat := (s.data.getD k 0).toNat
theorem byteN_lt (s : ByteArray) (k : Nat) : byteN s k < 256 := UInt8.toNat_lt _
theorem byteN_eq (s : ByteArray) (k : Nat) (h : k < s.size) : byteN s k = (s[k]).toNat := by
  have := byteAt_eq s k h
  unfold byteAt at this
  unfold byteN
  omega

/-- Reading a number: what it is, the place behind it, the code. Fuel, place, how many bytes were read, what they are so far. -/
def rd (s : ByteArray) : Nat → Nat → Nat → Nat → Int × Int × Int
  | 0, _, _, _ => (0, 0, 3)
  | f + 1, p, k, u =>
    if s.size ≤ p then (0, 0, 4)
    else if k = 9 ∧ 1 < byteN s p then (0, 0, 3)
    else if byteN s p < 128 then
      if byteN s p = 0 ∧ 0 < k then (0, 0, 3) else (unfoldZ (u + byteN s p * 2 ^ (7 * k)), (p : Int) + 1, 0)
    else rd s f (p + 1) (k + 1) (u + byteN s p % 128 * 2 ^ (7 * k))

/-- The frame of readNum: what is known of it at a jump. -/
def Fr (x0 x1 x7 x8 x9 x10 : Value) (a : Act) : Prop := ∃ u11 u12 u13 u14 u15 u16 u17 u18 u19 u20 u21 u22 u23 u24 u25 u26 u27 u28 u29 u30 u31 u32 u33 u34 u35 u36 u37 u38 u39 u40 u41 u42 u43 u44 u45 u46 u47 u48 u49 u50 u51 u52 u53 u54 u55 u56 u57 : Value, a = { tmps := #[x0, x1, undef, undef, .int .i64 0, .int .i64 0, .nilIface, x7, x8, x9, x10, u11, u12, u13, u14, u15, u16, u17, u18, u19, u20, u21, u22, u23, u24, u25, u26, u27, u28, u29, u30, u31, u32, u33, u34, u35, u36, u37, u38, u39, u40, u41, u42, u43, u44, u45, u46, u47, u48, u49, u50, u51, u52, u53, u54, u55, u56, u57], defers := [] }

/-- What holds at the jumps: 1 is 'more', 2 is 'last', 0 is 'wrong'. r is what is to come out. -/
def Jm (s : ByteArray) (w : World) (r : Int × Int × Int) (a : Act) (w' : World) : Prop :=
  w' = w.alloc (.cells #[.int .i64 0] 56) ∧ ∃ (p k u m : Nat) (x9 : Value), Fr (.string s) (.int .i64 p) (.int .u64 u) (.int .u64 m) x9 (.pointer (some ⟨w.heap.size, 0, none⟩)) a ∧
    m ≤ 63 ∧ s.size ≤ 8000 ∧ Hid (m = 7 * k ∧ u < 2 ^ (7 * k) ∧ rd s (10 - k) p k u = r)
def Jl (s : ByteArray) (w : World) (r : Int × Int × Int) (a : Act) (w' : World) : Prop :=
  w' = w.alloc (.cells #[.int .i64 0] 56) ∧ ∃ (p u m b : Nat), Fr (.string s) (.int .i64 p) (.int .u64 u) (.int .u64 m) (.int .u8 b) (.pointer (some ⟨w.heap.size, 0, none⟩)) a ∧
    m ≤ 63 ∧ b < 256 ∧ Hid (u < 2 ^ 64 ∧ (if b = 0 ∧ 0 < m then (0, 0, 3) else (unfoldZ u, (p : Int), 0)) = r)
def Jw (s : ByteArray) (w : World) (r : Int × Int × Int) (a : Act) (w' : World) : Prop :=
  ∃ c : Int, w' = w.alloc (.cells #[.int .i64 c] 56) ∧ Hid (c ≠ 0) ∧ ∃ (x1 x7 x8 x9 : Value), Fr (.string s) x1 x7 x8 x9 (.pointer (some ⟨w.heap.size, 0, none⟩)) a ∧ Hid ((0, 0, c) = r)
def J3 (s : ByteArray) (w : World) (r : Int × Int × Int) (l : Nat) (a : Act) (w' : World) : Prop :=
  (l = 1 ∧ Jm s w r a w') ∨ (l = 2 ∧ Jl s w r a w') ∨ (l = 0 ∧ Jw s w r a w')
def shiftOf : Value → Nat | .int _ q => q.toNat | _ => 0
def mu (l : Nat) (a : Act) (_ : World) : Nat := if l = 1 then 100 - shiftOf (a.tmps.getD 8 undef) else l


theorem andNot128 (x : Fin 256) : bits BinOp.andNot IntKind.u8 (x.val : Int) 128 = ((x.val % 128 : Nat) : Int) := by
  revert x; decide +kernel
theorem or_step (u b m : Nat) (hb : b < 256) (hu : u < 2 ^ m) (hm : m ≤ 56 ∨ (m ≤ 63 ∧ b ≤ 1)) :
    bits BinOp.or IntKind.u64 (u : Int) (IntKind.u64.wrap (IntKind.u64.wrap (bits BinOp.andNot IntKind.u8 (b : Int) 128) * 2 ^ m)) = ((u + b % 128 * 2 ^ m : Nat) : Int) := by
  have h1 := andNot128 ⟨b, hb⟩
  simp only at h1
  have hc : (b % 128 + 1) * 2 ^ m ≤ 18446744073709551616 := by
    rcases hm with hm | ⟨hm, hb1⟩
    · have e1 : (b % 128 + 1) * 2 ^ m ≤ 128 * 2 ^ m := Nat.mul_le_mul_right _ (by omega)
      have e2 : 2 ^ m ≤ 2 ^ 56 := Nat.pow_le_pow_right (by decide) hm
      have e3 : (18446744073709551616 : Nat) = 256 * 2 ^ 56 := by decide
      omega
    · have e1 : (b % 128 + 1) * 2 ^ m ≤ 2 * 2 ^ m := Nat.mul_le_mul_right _ (by omega)
      have e2 : 2 ^ m ≤ 2 ^ 63 := Nat.pow_le_pow_right (by decide) hm
      have e3 : (18446744073709551616 : Nat) = 2 * 2 ^ 63 := by decide
      omega
  have hs : (b % 128 + 1) * 2 ^ m = b % 128 * 2 ^ m + 2 ^ m := by rw [Nat.add_mul, Nat.one_mul]
  have ew : IntKind.u64.wrap (IntKind.u64.wrap (((b % 128 : Nat) : Int)) * 2 ^ m) = ((b % 128 * 2 ^ m : Nat) : Int) := by
    rw [IntKind.wrap_u64, IntKind.wrap_u64, show (((b % 128 : Nat) : Int)) % 18446744073709551616 = ((b % 128 : Nat) : Int) from by omega]
    have : (((b % 128 : Nat) : Int)) * 2 ^ m = ((b % 128 * 2 ^ m : Nat) : Int) := by simp
    rw [this]
    omega
  rw [h1, ew, bits_or_u64_nat _ _ (by omega) (by omega), Nat.or_comm, Nat.mul_comm (b % 128), ← Nat.two_pow_add_eq_or_of_lt hu, Nat.add_comm]
theorem step_lt {u b m : Nat} (hu : u < 2 ^ m) (hm : m ≤ 56 ∨ (m ≤ 63 ∧ b ≤ 1)) : u + b % 128 * 2 ^ m < 2 ^ 64 := by
  have hs : (b % 128 + 1) * 2 ^ m = b % 128 * 2 ^ m + 2 ^ m := by rw [Nat.add_mul, Nat.one_mul]
  rcases hm with hm | ⟨hm, hb1⟩
  · have e1 : (b % 128 + 1) * 2 ^ m ≤ 128 * 2 ^ m := Nat.mul_le_mul_right _ (by omega)
    have e2 : 2 ^ m ≤ 2 ^ 56 := Nat.pow_le_pow_right (by decide) hm
    have e3 : (2 : Nat) ^ 64 = 256 * 2 ^ 56 := by decide
    omega
  · have e1 : (b % 128 + 1) * 2 ^ m ≤ 2 * 2 ^ m := Nat.mul_le_mul_right _ (by omega)
    have e2 : 2 ^ m ≤ 2 ^ 63 := Nat.pow_le_pow_right (by decide) hm
    have e3 : (2 : Nat) ^ 64 = 2 * 2 ^ 63 := by decide
    omega
theorem step_next {u b k : Nat} (hu : u < 2 ^ (7 * k)) : u + b % 128 * 2 ^ (7 * k) < 2 ^ (7 * (k + 1)) := by
  have hs : (b % 128 + 1) * 2 ^ (7 * k) = b % 128 * 2 ^ (7 * k) + 2 ^ (7 * k) := by rw [Nat.add_mul, Nat.one_mul]
  have e1 : (b % 128 + 1) * 2 ^ (7 * k) ≤ 128 * 2 ^ (7 * k) := Nat.mul_le_mul_right _ (by omega)
  have e2 : 2 ^ (7 * (k + 1)) = 128 * 2 ^ (7 * k) := by rw [Nat.mul_add, Nat.pow_add]; omega
  omega

theorem rd_eq (s : ByteArray) (p k u : Nat) (hk : k ≤ 9) : rd s (10 - k) p k u =
    if s.size ≤ p then (0, 0, 4)
    else if k = 9 ∧ 1 < byteN s p then (0, 0, 3)
    else if byteN s p < 128 then
      if byteN s p = 0 ∧ 0 < k then (0, 0, 3) else (unfoldZ (u + byteN s p * 2 ^ (7 * k)), (p : Int) + 1, 0)
    else rd s (10 - (k + 1)) (p + 1) (k + 1) (u + byteN s p % 128 * 2 ^ (7 * k)) := by
  rw [show 10 - k = (9 - k) + 1 by omega, rd, show 9 - k = 10 - (k + 1) by omega]

theorem and1_u64 (u : Nat) (h : u < 18446744073709551616) : bits BinOp.and IntKind.u64 (u : Int) 1 = ((u % 2 : Nat) : Int) := by
  have := bits_and_u64_nat u 1 h (by decide)
  simpa [Nat.and_one_is_mod] using this
theorem xor_i64_zero (x : Nat) (h : x < 9223372036854775808) : bits BinOp.xor IntKind.i64 (x : Int) 0 = (x : Int) := by
  show IntKind.i64.wrap ((BitVec.ofInt 64 (x : Int) ^^^ BitVec.ofInt 64 0).toNat : Int) = _
  have e : BitVec.ofInt 64 0 = 0#64 := by decide
  rw [e, BitVec.xor_zero, BitVec.ofInt_natCast, BitVec.toNat_ofNat, IntKind.wrap_i64]
  omega
theorem xor_i64_ones (x : Nat) (h : x < 9223372036854775808) : bits BinOp.xor IntKind.i64 (x : Int) (-1) = -(x : Int) - 1 := by
  show IntKind.i64.wrap ((BitVec.ofInt 64 (x : Int) ^^^ BitVec.ofInt 64 (-1)).toNat : Int) = _
  have e : BitVec.ofInt 64 (-1) = BitVec.allOnes 64 := by decide
  rw [e, BitVec.xor_allOnes, BitVec.toNat_not, BitVec.ofInt_natCast, BitVec.toNat_ofNat, IntKind.wrap_i64]
  omega
theorem unfold_impl (u : Nat) (h : u < 18446744073709551616) :
    bits BinOp.xor IntKind.i64 (wrap64 ((u : Int) / 2)) (wrap64 (-wrap64 (bits BinOp.and IntKind.u64 (u : Int) 1))) = unfoldZ u := by
  rw [and1_u64 u h]
  have e1 : wrap64 ((u : Int) / 2) = ((u / 2 : Nat) : Int) := by unfold wrap64; omega
  rw [e1]
  unfold unfoldZ
  by_cases hu : u % 2 = 1
  · rw [if_pos hu, show wrap64 (-wrap64 ((u % 2 : Nat) : Int)) = -1 from by unfold wrap64; omega, xor_i64_ones _ (by omega)]
  · rw [if_neg hu, show wrap64 (-wrap64 ((u % 2 : Nat) : Int)) = 0 from by unfold wrap64; omega, xor_i64_zero _ (by omega)]

set_option maxHeartbeats 400000 in
theorem unfold_any (u : Nat) (w : World) (h : u < 2 ^ 64) :
    Calls Tryd.prog 30 #[.int .u64 u] w fun e w' => e = .returned (.int .i64 (unfoldZ u)) ∧ w = w' := by
  have HU := Lib.hid (unfold_impl u (by simpa using h))
  clear h
  go_enter Tryd.func30, Tryd.ntmps30
  go_wp2
  go_ret
  exact ⟨ret_int HU.out, rfl⟩

end Go.Proofs.YtdpmneoodolgdaaDoor
