/- What is written as a number is read as that number; of bytes that end too early nothing is read. -/
import Derived.Test.YtdpmneoodolgdaaDoorGetT
import Derived.Test.YtdpmneoodolgdaaDoorBytesM
import Derived.Test.YtdpmneoodolgdaaDoorText
namespace Go.Proofs.YtdpmneoodolgdaaDoor
open Go.RowKit

theorem byteN_of {s : ByteArray} {pre post : List Int} {b : Int} (h : bytesOf s = pre ++ b :: post) : pre.length < s.size ∧ (byteN s pre.length : Int) = b := by
  have hl : pre.length < s.size := by rw [← bytesOf_length, h]; simp
  refine ⟨hl, ?_⟩
  have e := bytesOf_getElem s pre.length hl
  rw [h] at e
  simp at e
  rw [e]
  rfl
theorem pow_step (u v k : Nat) : u + v % 128 * 2 ^ (7 * k) + v / 128 * 2 ^ (7 * (k + 1)) = u + v * 2 ^ (7 * k) := by
  have e : 2 ^ (7 * (k + 1)) = 128 * 2 ^ (7 * k) := by rw [Nat.mul_add, Nat.pow_add]; omega
  rw [e]
  have h : v * 2 ^ (7 * k) = (v % 128 + 128 * (v / 128)) * 2 ^ (7 * k) := by rw [Nat.mod_add_div]
  rw [h, Nat.add_mul, Nat.mul_comm 128 (v / 128), Nat.mul_assoc]
  omega

/-- A number's bytes are read as that number. -/
theorem rd_numBytes (s : ByteArray) (post : List Int) : ∀ (v : Nat) (pre : List Int) (k u : Nat), bytesOf s = pre ++ numBytes v ++ post → k ≤ 9 → (0 < k → 0 < v) → v * 2 ^ (7 * k) < 2 ^ 64 →
    rd s (10 - k) pre.length k u = (unfoldZ (u + v * 2 ^ (7 * k)), ((pre.length + (numBytes v).length : Nat) : Int), 0) := by
  intro v
  induction v using Nat.strongRecOn with
  | _ v ih =>
    intro pre k u hs hk hv hlt
    by_cases hsm : v < 128
    · rw [numBytes_small hsm] at hs ⊢
      obtain ⟨hl, hb⟩ := byteN_of (pre := pre) (b := (v : Int)) (post := post) (by rw [hs]; simp)
      have hbn : byteN s pre.length = v := by omega
      have h9 : ¬ (k = 9 ∧ 1 < v) := by
        rintro ⟨rfl, h1⟩
        have e3 : (2 : Nat) ^ 64 = 2 * 2 ^ (7 * 9) := by decide
        have e4 : 2 * 2 ^ (7 * 9) ≤ v * 2 ^ (7 * 9) := Nat.mul_le_mul_right _ h1
        omega
      have e := rd_eq s pre.length k u hk
      rw [if_neg (by omega), hbn, if_neg h9, if_pos hsm, if_neg (by omega)] at e
      rw [e]
      simp
    · rw [numBytes_more hsm] at hs ⊢
      obtain ⟨hl, hb⟩ := byteN_of (pre := pre) (b := (v : Int) % 128 + 128) (post := numBytes (v / 128) ++ post) (by rw [hs]; simp)
      have hk9 : k ≠ 9 := by
        rintro rfl
        have e3 : (2 : Nat) ^ 64 = 2 * 2 ^ (7 * 9) := by decide
        have e4 : 128 * 2 ^ (7 * 9) ≤ v * 2 ^ (7 * 9) := Nat.mul_le_mul_right _ (by omega)
        omega
      have e := rd_eq s pre.length k u hk
      rw [if_neg (by omega), if_neg (by omega), if_neg (by omega), show byteN s pre.length % 128 = v % 128 by omega] at e
      have hlt2 : v / 128 * 2 ^ (7 * (k + 1)) < 2 ^ 64 := by have := pow_step 0 v k; omega
      have r := ih (v / 128) (by omega) (pre ++ [(v : Int) % 128 + 128]) (k + 1) (u + v % 128 * 2 ^ (7 * k)) (by rw [hs]; simp) (by omega) (fun _ => by omega) hlt2
      rw [List.length_append] at r
      simp only [List.length_cons, List.length_nil, Nat.zero_add] at r
      rw [e, r, pow_step]
      simp
      omega
/-- Of a number's bytes but the last nothing is read. -/
theorem rd_cut (s : ByteArray) : ∀ (v : Nat) (pre : List Int) (k u : Nat), bytesOf s = pre ++ (numBytes v).dropLast → k ≤ 9 → v * 2 ^ (7 * k) < 2 ^ 64 →
    rd s (10 - k) pre.length k u = (0, 0, 4) := by
  intro v
  induction v using Nat.strongRecOn with
  | _ v ih =>
    intro pre k u hs hk hlt
    by_cases hsm : v < 128
    · rw [numBytes_small hsm] at hs
      have hz : s.size = pre.length := by rw [← bytesOf_length, hs]; simp
      rw [rd_eq s pre.length k u hk, if_pos (by omega)]
    · rw [numBytes_more hsm, List.dropLast_cons_of_ne_nil (by intro e; have := numBytes_pos (v / 128); rw [e] at this; simp at this)] at hs
      obtain ⟨hl, hb⟩ := byteN_of (pre := pre) (b := (v : Int) % 128 + 128) (post := (numBytes (v / 128)).dropLast) (by rw [hs])
      have hk9 : k ≠ 9 := by
        rintro rfl
        have e3 : (2 : Nat) ^ 64 = 2 * 2 ^ (7 * 9) := by decide
        have e4 : 128 * 2 ^ (7 * 9) ≤ v * 2 ^ (7 * 9) := Nat.mul_le_mul_right _ (by omega)
        omega
      have e := rd_eq s pre.length k u hk
      rw [if_neg (by omega), if_neg (by omega), if_neg (by omega)] at e
      have hlt2 : v / 128 * 2 ^ (7 * (k + 1)) < 2 ^ 64 := by have := pow_step 0 v k; omega
      have r := ih (v / 128) (by omega) (pre ++ [(v : Int) % 128 + 128]) (k + 1) (u + byteN s pre.length % 128 * 2 ^ (7 * k)) (by rw [hs]; simp) (by omega) hlt2
      rw [List.length_append] at r
      simp only [List.length_cons, List.length_nil, Nat.zero_add] at r
      rw [e, r]
theorem unfold_fold {n : Int} (h0 : -9223372036854775808 ≤ n) (h1 : n ≤ 9223372036854775807) : unfoldZ (foldZ n).toNat = n := by
  unfold unfoldZ foldZ
  by_cases h : n < 0
  · rw [if_pos h, if_pos (by omega)]; omega
  · rw [if_neg h, if_neg (by omega)]; omega
theorem isB_numBytes : ∀ v : Nat, IsB (numBytes v) := by
  intro v
  induction v using Nat.strongRecOn with
  | _ v ih =>
    by_cases hsm : v < 128
    · rw [numBytes_small hsm]; intro b hb; simp at hb; omega
    · rw [numBytes_more hsm]
      intro b hb
      rcases List.mem_cons.1 hb with rfl | hb
      · omega
      · exact ih (v / 128) (by omega) b hb
theorem bytesOf_putNum (n : Int) : bytesOf (putNumOf n) = numBytes (foldZ n).toNat := bytesOf_strOfNums (isB_numBytes _)
theorem putNum_len (n : Int) : (putNumOf n).size = (numBytes (foldZ n).toNat).length := by rw [← bytesOf_length, bytesOf_putNum]

theorem rdOf_put (n : Int) (h0 : -9223372036854775808 ≤ n) (h1 : n ≤ 9223372036854775807) (a z : ByteArray) (hs : (a ++ putNumOf n ++ z).size ≤ 8000) :
    rdOf (a ++ putNumOf n ++ z) a.size = (n, ((a.size + (putNumOf n).size : Nat) : Int), 0) := by
  have hr := foldZ_range h0 h1
  have h := rd_numBytes (a ++ putNumOf n ++ z) (bytesOf z) (foldZ n).toNat (bytesOf a) 0 0 (by rw [bytesOf_append, bytesOf_append, bytesOf_putNum]) (by omega) (by omega) (by simp; omega)
  rw [rdOf, if_neg (by omega), if_neg (by omega), Int.toNat_natCast, ← bytesOf_length a]
  rw [show (10 : Nat) = 10 - 0 from rfl, h]
  simp [unfold_fold h0 h1, putNum_len]
theorem rdOf_cut (n : Int) (h0 : -9223372036854775808 ≤ n) (h1 : n ≤ 9223372036854775807) :
    rdOf ((putNumOf n).extract 0 ((putNumOf n).size - 1)) 0 = (0, 0, 4) := by
  have hr := foldZ_range h0 h1
  have hl := putNumOf_size n h0 h1
  have h := rd_cut ((putNumOf n).extract 0 ((putNumOf n).size - 1)) (foldZ n).toNat [] 0 0 (by rw [bytesOf_extract, bytesOf_putNum, putNum_len, List.dropLast_eq_take]; simp) (by omega) (by simp; omega)
  rw [rdOf, if_neg (by simp; omega), if_neg (by omega)]
  exact h

/-- A text that fits in comes back, with the place behind it. -/
theorem gt_put (u : ByteArray) (hu : u.size ≤ 8000) (hs : (putTextOf u).size + 1 ≤ 8000) :
    gt3 ((⟨#[120]⟩ : ByteArray) ++ putTextOf u) (rdOf ((⟨#[120]⟩ : ByteArray) ++ putTextOf u) 1) = (u, ((putTextOf u).size : Int) + 1, 0) := by
  have hp : putTextOf u = putNumOf u.size ++ u := if_pos hu
  have hz : (⟨#[120]⟩ : ByteArray).size = 1 := rfl
  have hsz : ((⟨#[120]⟩ : ByteArray) ++ putNumOf u.size ++ u).size = 1 + (putNumOf u.size).size + u.size := by simp [hz]
  have hps : (putTextOf u).size = (putNumOf u.size).size + u.size := by rw [hp]; simp
  have h := rdOf_put u.size (by omega) (by omega) ⟨#[120]⟩ u (by rw [hsz]; omega)
  rw [hz] at h
  have ea : (⟨#[120]⟩ : ByteArray) ++ putTextOf u = (⟨#[120]⟩ : ByteArray) ++ putNumOf u.size ++ u := by rw [hp, ByteArray.append_assoc]
  rw [ea]
  have h' : rdOf ((⟨#[120]⟩ : ByteArray) ++ putNumOf u.size ++ u) 1 = ((u.size : Int), ((1 + (putNumOf u.size).size : Nat) : Int), 0) := h
  rw [h']
  unfold gt3
  simp only [ne_eq, not_true_eq_false, if_false]
  rw [if_neg (by omega), if_neg (by rw [hsz]; omega)]
  have ex : ((⟨#[120]⟩ : ByteArray) ++ putNumOf u.size ++ u).extract (((1 + (putNumOf u.size).size : Nat) : Int)).toNat (((1 + (putNumOf u.size).size : Nat) : Int) + (u.size : Int)).toNat = u := by
    apply bytesOf_inj
    unfold bytesOf
    rw [Lib.extract_data, Joins.data_append, Joins.data_append]
    have e1 : (((1 + (putNumOf u.size).size : Nat) : Int)).toNat = ((⟨#[120]⟩ : ByteArray).data.toList ++ (putNumOf u.size).data.toList).length := by
      rw [List.length_append]
      show _ = 1 + (putNumOf u.size).size
      omega
    rw [e1, List.drop_left, List.take_of_length_le (by rw [← e1]; show u.size ≤ _; omega)]
  rw [ex, hps]
  congr 2
  omega
/-- Of a text's bytes but the last nothing is got. -/
theorem gt_cut (u : ByteArray) (hu : u.size ≤ 8000) (hs : (putTextOf u).size + 1 ≤ 8000) :
    (gt3 ((putTextOf u).extract 0 ((putTextOf u).size - 1)) (rdOf ((putTextOf u).extract 0 ((putTextOf u).size - 1)) 0)) = (⟨#[]⟩, 0, 4) := by
  have hp : putTextOf u = putNumOf u.size ++ u := if_pos hu
  have hps : (putTextOf u).size = (putNumOf u.size).size + u.size := by rw [hp]; simp
  by_cases h0 : u.size = 0
  · have hu0 : u = ByteArray.empty := by
      apply bytesOf_inj
      rw [List.eq_nil_of_length_eq_zero (show (bytesOf u).length = 0 by rw [bytesOf_length, h0])]
      rfl
    have e : putTextOf u = putNumOf u.size := by rw [hp, hu0]; simp
    rw [e, rdOf_cut u.size (by omega) (by omega)]
    simp [gt3]
  · have hx : (putTextOf u).extract 0 ((putTextOf u).size - 1) = ByteArray.empty ++ putNumOf u.size ++ u.extract 0 (u.size - 1) := by
      apply bytesOf_inj
      rw [bytesOf_extract, bytesOf_append, bytesOf_append, bytesOf_extract, hps, hp, bytesOf_append]
      have e : bytesOf ByteArray.empty = [] := rfl
      rw [e, List.nil_append, List.take_append]
      have e2 : (bytesOf (putNumOf u.size)).length = (putNumOf u.size).size := bytesOf_length _
      rw [List.take_of_length_le (by rw [e2]; omega), e2]
      congr 2
      omega
    have hsz : (ByteArray.empty ++ putNumOf u.size ++ u.extract 0 (u.size - 1)).size = (putNumOf u.size).size + u.size - 1 := by rw [← hx]; simp [hps]
    have h := rdOf_put u.size (by omega) (by omega) ByteArray.empty (u.extract 0 (u.size - 1)) (by omega)
    have h' : rdOf (ByteArray.empty ++ putNumOf u.size ++ u.extract 0 (u.size - 1)) 0 = ((u.size : Int), ((0 + (putNumOf u.size).size : Nat) : Int), 0) := h
    rw [hx, h']
    unfold gt3
    simp only [ne_eq, not_true_eq_false, if_false]
    rw [if_neg (by omega), if_pos (by rw [hsz]; omega)]
end Go.Proofs.YtdpmneoodolgdaaDoor
