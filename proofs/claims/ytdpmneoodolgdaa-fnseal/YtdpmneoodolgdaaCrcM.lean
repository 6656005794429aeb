/- What the CRC and the seal promise: a CRC goes on from text to text; a turned byte is always found. -/
import Derived.Test.YtdpmneoodolgdaaUnseal
import Derived.Test.YtdpmneoodolgdaaBytesM
namespace Go.Proofs.Ytdpmneoodolgdaa
open Go.RowKit

theorem crcTo_take (s : ByteArray) (r : Int) : ∀ k, k ≤ s.size → crcTo s r k = ((bytesOf s).take k).foldl crcB r
  | 0, _ => by simp [crcTo]
  | k + 1, h => by
    have hk : k < (bytesOf s).length := by rw [bytesOf_length]; omega
    have e := bytesOf_getElem s k (by omega)
    rw [List.getElem?_eq_getElem hk] at e
    rw [crcTo, crcTo_take s r k (by omega), List.take_succ_eq_append_getElem hk, List.foldl_append, Option.some.inj e]
    rfl
def crcL (l : List Int) (r : Int) : Int := l.foldl crcB r
theorem crcOf_list (c : Int) (s : ByteArray) : crcOf c s = bits BinOp.xor IntKind.u32 (crcL (bytesOf s) (bits BinOp.xor IntKind.u32 c 4294967295)) 4294967295 := by
  rw [crcOf, crcTo_take s _ s.size (Nat.le_refl _), List.take_of_length_le (by rw [bytesOf_length]; exact Nat.le_refl _)]
  rfl

theorem xor32 (a b : Nat) (ha : a < 4294967296) (hb : b < 4294967296) : bits BinOp.xor IntKind.u32 (a : Int) (b : Int) = ((a ^^^ b : Nat) : Int) := by
  have hx : a ^^^ b < 2 ^ 32 := Nat.xor_lt_two_pow (by omega) (by omega)
  have h1 : (BitVec.ofInt 32 (a : Int)).toNat = a := by rw [BitVec.ofInt_natCast, BitVec.toNat_ofNat]; exact Nat.mod_eq_of_lt (by omega)
  have h2 : (BitVec.ofInt 32 (b : Int)).toNat = b := by rw [BitVec.ofInt_natCast, BitVec.toNat_ofNat]; exact Nat.mod_eq_of_lt (by omega)
  show IntKind.u32.wrap ((BitVec.ofInt 32 (a : Int) ^^^ BitVec.ofInt 32 (b : Int)).toNat : Int) = _
  rw [BitVec.toNat_xor, h1, h2, IntKind.wrap_u32]
  omega
theorem In32.nat {q : Int} (h : In32 q) : ∃ n : Nat, q = n ∧ n < 4294967296 := by
  obtain ⟨n, rfl⟩ := Int.eq_ofNat_of_zero_le h.1
  exact ⟨n, rfl, by have := h.2; omega⟩
theorem xor_cancel {r a b : Int} (hr : In32 r) (ha : In32 a) (hb : In32 b) (h : bits BinOp.xor IntKind.u32 r a = bits BinOp.xor IntKind.u32 r b) : a = b := by
  obtain ⟨r, rfl, kr⟩ := hr.nat
  obtain ⟨a, rfl, ka⟩ := ha.nat
  obtain ⟨b, rfl, kb⟩ := hb.nat
  rw [xor32 _ _ kr ka, xor32 _ _ kr kb] at h
  have h' : r ^^^ a = r ^^^ b := by omega
  have := congrArg (fun x => r ^^^ x) h'
  simp only [← Nat.xor_assoc, Nat.xor_self, Nat.zero_xor] at this
  rw [this]
theorem xor_cancel' {r a b : Int} (hr : In32 r) (ha : In32 a) (hb : In32 b) (h : bits BinOp.xor IntKind.u32 a r = bits BinOp.xor IntKind.u32 b r) : a = b :=
  xor_cancel hr ha hb (by rw [bits_xor_comm _ r a, bits_xor_comm _ r b]; exact h)
theorem xor_twice {a r : Int} (ha : In32 a) (hr : In32 r) : bits BinOp.xor IntKind.u32 (bits BinOp.xor IntKind.u32 a r) r = a := by
  obtain ⟨r, rfl, kr⟩ := hr.nat
  obtain ⟨a, rfl, ka⟩ := ha.nat
  have hx : a ^^^ r < 2 ^ 32 := Nat.xor_lt_two_pow (by omega) (by omega)
  rw [xor32 _ _ ka kr, xor32 _ _ (by omega) kr, Nat.xor_assoc, Nat.xor_self, Nat.xor_zero]

theorem and1_32 (q : Nat) (h : q < 4294967296) : bits BinOp.and IntKind.u32 (q : Int) 1 = ((q % 2 : Nat) : Int) := by
  have := (bits_nat .u32 32 (by decide) (fun n h0 h1 => by rw [IntKind.wrap_u32]; omega) q 1 (by omega) (by decide)).1
  simpa [Nat.and_one_is_mod] using this
theorem high (a : Nat) (h : a < 2147483648) : 2147483648 ≤ a ^^^ 3988292384 := by
  rcases Nat.lt_or_ge (a ^^^ 3988292384) 2147483648 with hl | hl
  · have e1 : (a ^^^ 3988292384).testBit 31 = false := Nat.testBit_lt_two_pow (by omega)
    have e2 : a.testBit 31 = false := Nat.testBit_lt_two_pow (by omega)
    have e3 : (3988292384 : Nat).testBit 31 = true := by decide
    rw [Nat.testBit_xor, e2, e3] at e1
    cases e1
  · exact hl
theorem crc1_nat (q : Nat) (h : q < 4294967296) : crc1 (q : Int) = if q % 2 = 1 then ((q / 2 ^^^ 3988292384 : Nat) : Int) else ((q / 2 : Nat) : Int) := by
  have e := and1_32 q h
  unfold crc1
  by_cases hq : q % 2 = 1
  · have hb : (bits BinOp.and IntKind.u32 (q : Int) 1 == 1) = true := by rw [e, hq]; rfl
    have ed : ((q : Int) / 2) = ((q / 2 : Nat) : Int) := by omega
    rw [if_pos hb, if_pos hq, ed]
    exact xor32 (q / 2) 3988292384 (by omega) (by decide)
  · have hb : ¬ (bits BinOp.and IntKind.u32 (q : Int) 1 == 1) = true := by
      rw [e, show q % 2 = 0 by omega]; decide
    rw [if_neg hb, if_neg hq]
    omega
theorem crc1_inj {q q' : Int} (h : In32 q) (h' : In32 q') (e : crc1 q = crc1 q') : q = q' := by
  obtain ⟨q, rfl, hq⟩ := h.nat
  obtain ⟨q', rfl, hq'⟩ := h'.nat
  rw [crc1_nat q hq, crc1_nat q' hq'] at e
  have k1 := high (q / 2) (by omega)
  have k2 := high (q' / 2) (by omega)
  by_cases hp : q % 2 = 1
  · by_cases hp' : q' % 2 = 1
    · rw [if_pos hp, if_pos hp'] at e
      have e' : q / 2 ^^^ 3988292384 = q' / 2 ^^^ 3988292384 := by omega
      have := congrArg (fun x => x ^^^ 3988292384) e'
      simp only [Nat.xor_assoc, Nat.xor_self, Nat.xor_zero] at this
      omega
    · rw [if_pos hp, if_neg hp'] at e
      omega
  · by_cases hp' : q' % 2 = 1
    · rw [if_neg hp, if_pos hp'] at e
      omega
    · rw [if_neg hp, if_neg hp'] at e
      omega
theorem crcK_inj {q q' : Int} (h : In32 q) (h' : In32 q') : ∀ k, crcK k q = crcK k q' → q = q'
  | 0, e => e
  | k + 1, e => crcK_inj h h' k (crc1_inj (in32_crcK h k) (in32_crcK h' k) e)
theorem in32_byte {b : Int} (h : 0 ≤ b ∧ b < 256) : In32 b := ⟨h.1, by omega⟩
theorem in32_crcL {r : Int} (h : In32 r) : ∀ l : List Int, In32 (crcL l r)
  | [] => h
  | b :: l => by
    show In32 (crcL l (crcB r b))
    exact in32_crcL (in32_crcB _ _) l
theorem crcL_inj : ∀ (l : List Int) {r r' : Int}, IsB l → In32 r → In32 r' → crcL l r = crcL l r' → r = r'
  | [], _, _, _, _, _, e => e
  | b :: l, r, r', hl, h, h', e => by
    have e1 : crcB r b = crcB r' b := crcL_inj l (fun x hx => hl x (List.mem_cons_of_mem _ hx)) (in32_crcB _ _) (in32_crcB _ _) e
    exact xor_cancel' (in32_byte (hl b (List.mem_cons_self ..))) h h' (crcK_inj (in32_bits _ _ _) (in32_bits _ _ _) 8 e1)
theorem crcL_flip (a c : List Int) (x y r : Int) (hc : IsB c) (hx : 0 ≤ x ∧ x < 256) (hy : 0 ≤ y ∧ y < 256) (hr : In32 r) (e : crcL (a ++ x :: c) r = crcL (a ++ y :: c) r) : x = y := by
  unfold crcL at e
  rw [List.foldl_append, List.foldl_append, List.foldl_cons, List.foldl_cons] at e
  have e1 : crcB (a.foldl crcB r) x = crcB (a.foldl crcB r) y := crcL_inj c hc (in32_crcB _ _) (in32_crcB _ _) e
  exact xor_cancel (in32_crcL hr a) (in32_byte hx) (in32_byte hy) (crcK_inj (in32_bits _ _ _) (in32_bits _ _ _) 8 e1)

theorem ones32 : In32 4294967295 := ⟨by omega, by omega⟩
/-- A CRC goes on from text to text. -/
theorem crcOf_append (t u : ByteArray) : crcOf (crcOf 0 t) u = crcOf 0 (t ++ u) := by
  rw [crcOf_list (crcOf 0 t) u, crcOf_list 0 t, crcOf_list 0 (t ++ u), xor_twice (in32_crcL (in32_bits _ _ _) _) ones32, bytesOf_append]
  unfold crcL
  rw [List.foldl_append]

def fourL (c : Int) : List Int := [c % 256, c / 256 % 256, c / 65536 % 256, c / 16777216]
theorem isB_fourL {c : Int} (h : In32 c) : IsB (fourL c) := by
  intro b hb
  unfold In32 at h
  simp only [fourL, List.mem_cons, List.not_mem_nil, or_false] at hb
  rcases hb with rfl | rfl | rfl | rfl <;> omega
theorem bytesOf_four {c : Int} (h : In32 c) : bytesOf (fourOf c) = fourL c := bytesOf_strOfNums (isB_fourL h)
theorem fourL_inj {c d : Int} (hc : In32 c) (hd : In32 d) (h : fourL c = fourL d) : c = d := by
  unfold In32 at hc hd
  simp only [fourL, List.cons.injEq, and_true] at h
  omega
theorem in32_crcOf (c : Int) (s : ByteArray) : In32 (crcOf c s) := in32_bits _ _ _
theorem bytesOf_sealOf (t : ByteArray) (h : t.size ≤ 7996) : bytesOf (sealOf t) = bytesOf t ++ fourL (crcOf 0 t) := by
  rw [sealOf, if_pos h, bytesOf_append, bytesOf_four (in32_crcOf _ _)]
theorem sealOf_size (t : ByteArray) (h : t.size ≤ 7996) : (sealOf t).size = t.size + 4 := by
  rw [← bytesOf_length, bytesOf_sealOf t h, List.length_append, bytesOf_length]
  rfl
/-- A sealed text comes back. -/
theorem unseal_seal (t : ByteArray) (h : t.size ≤ 7996) : unsealOf (sealOf t) = textOut t 0 0 := by
  have hz := sealOf_size t h
  have he : (sealOf t).extract 0 ((sealOf t).size - 4) = t := by
    apply bytesOf_inj
    rw [bytesOf_extract, hz, bytesOf_sealOf t h, show t.size + 4 - 4 = (bytesOf t).length by rw [bytesOf_length]; omega, List.take_left]
  rw [unsealOf, if_neg (by omega), if_neg (by omega), he, if_pos (by simp)]
/-- With one byte turned it is refused. -/
theorem unseal_turned (t : ByteArray) (h : t.size ≤ 7996) (i : Nat) (v : Int) (hi : i < t.size + 4) (hv : 0 ≤ v ∧ v < 256) (hne : (bytesOf (sealOf t))[i]? ≠ some v) :
    unsealOf (strOfNums ((bytesOf (sealOf t)).set i v)) = textOut ⟨#[]⟩ 0 5 := by
  have hz := sealOf_size t h
  have hbl : (bytesOf t).length = t.size := bytesOf_length t
  have hB : IsB ((bytesOf (sealOf t)).set i v) := by
    intro b hb
    rcases List.mem_or_eq_of_mem_set hb with hb | rfl
    · exact isB_bytesOf _ b hb
    · exact hv
  have hl : (strOfNums ((bytesOf (sealOf t)).set i v)).size = t.size + 4 := by rw [strOfNums_size, List.length_set, bytesOf_length, hz]
  have hbs := bytesOf_strOfNums hB
  have key : ¬ sealOf ((strOfNums ((bytesOf (sealOf t)).set i v)).extract 0 ((strOfNums ((bytesOf (sealOf t)).set i v)).size - 4)) = strOfNums ((bytesOf (sealOf t)).set i v) := by
    intro e
    have e1 := congrArg bytesOf e
    rw [hbs, hl] at e1
    generalize hx : (strOfNums ((bytesOf (sealOf t)).set i v)).extract 0 (t.size + 4 - 4) = x at e1
    have hxb : bytesOf x = ((bytesOf (sealOf t)).set i v).take t.size := by rw [← hx, bytesOf_extract, hbs]; simp
    have hxs : x.size ≤ 7996 := by rw [← bytesOf_length, hxb]; simp; omega
    rw [bytesOf_sealOf x hxs, hxb] at e1
    by_cases hit : i < t.size
    · have hs1 : (bytesOf (sealOf t)).set i v = (bytesOf t).set i v ++ fourL (crcOf 0 t) := by
        rw [bytesOf_sealOf t h, List.set_append_left _ _ (by omega)]
      have hxb2 : bytesOf x = (bytesOf t).set i v := by rw [hxb, hs1, List.take_append_of_le_length (by simp; omega), List.take_of_length_le (by simp; omega)]
      rw [← hxb, hxb2, hs1] at e1
      have e2 := fourL_inj (in32_crcOf _ _) (in32_crcOf _ _) (List.append_cancel_left e1)
      rw [crcOf_list 0 x, crcOf_list 0 t] at e2
      have e3 := xor_cancel' ones32 (in32_crcL (in32_bits _ _ _) _) (in32_crcL (in32_bits _ _ _) _) e2
      have hil : i < (bytesOf t).length := by omega
      have d1 : bytesOf t = (bytesOf t).take i ++ (bytesOf t)[i] :: (bytesOf t).drop (i + 1) := by
        rw [List.getElem_cons_drop, List.take_append_drop]
      have d2 : (bytesOf t).set i v = (bytesOf t).take i ++ v :: (bytesOf t).drop (i + 1) := List.set_eq_take_append_cons_drop .. |>.trans (by rw [if_pos hil])
      rw [hxb2, d2, d1] at e3
      have hd : IsB ((bytesOf t).drop (i + 1)) := fun b hb => isB_bytesOf t b (List.mem_of_mem_drop hb)
      have hli : ((bytesOf t).take i).length = i := by simp; omega
      have e4 := crcL_flip ((bytesOf t).take i) ((bytesOf t).drop (i + 1)) v (bytesOf t)[i] _ hd hv (isB_bytesOf t _ (List.getElem_mem hil)) (in32_bits _ _ _) (by simpa [List.take_append, List.drop_append, hli] using e3)
      apply hne
      rw [bytesOf_sealOf t h, List.getElem?_append_left hil, List.getElem?_eq_getElem hil, e4]
    · have hs1 : (bytesOf (sealOf t)).set i v = bytesOf t ++ (fourL (crcOf 0 t)).set (i - t.size) v := by
        rw [bytesOf_sealOf t h, List.set_append_right _ _ (by omega), hbl]
      have hxb2 : bytesOf x = bytesOf t := by rw [hxb, hs1, List.take_append_of_le_length (by omega), List.take_of_length_le (by omega)]
      have hxt : x = t := bytesOf_inj hxb2
      rw [← hxb, hxb2, hs1, hxt] at e1
      have e2 := List.append_cancel_left e1
      apply hne
      have hj : i - t.size < (fourL (crcOf 0 t)).length := by show _ < 4; omega
      rw [bytesOf_sealOf t h, List.getElem?_append_right (by omega), hbl, e2]
      rw [List.getElem?_set_self hj]
  have hb3 : ((sealOf ((strOfNums ((bytesOf (sealOf t)).set i v)).extract 0 ((strOfNums ((bytesOf (sealOf t)).set i v)).size - 4))).toList == (strOfNums ((bytesOf (sealOf t)).set i v)).toList) = false := by
    rw [Lib.toList_data, Lib.toList_data, beq_eq_false_iff_ne]
    exact fun e => key (bytes_ext e)
  rw [unsealOf, if_neg (by omega), if_neg (by omega), if_neg (by rw [hb3]; decide)]
end Go.Proofs.Ytdpmneoodolgdaa
