/- What the law on seals draws. -/
import Derived.Test.YtdpmneoodolgdaaDraw2
import Derived.Test.YtdpmneoodolgdaaCrcM
namespace Go.Proofs.Ytdpmneoodolgdaa
open Go.RowKit

set_option maxRecDepth 100000 in
set_option maxHeartbeats 1000000 in
theorem drawSeal_any (A : Option Addr) (n c : Nat) (w : World) (hn : n ≤ 1048576) (hin : BytesIn w w.heap.size A n) :
    Calls Try.prog 11 #[.slice A n c] w (SomeStr w 19997) := by
  obtain ⟨i0, hi, hz0, hz1, hz2⟩ := info_parts Try.infoByte
  have HS := Lib.hid (source_any A n c w hn hin)
  clear hin
  go_enter Try.func11, Try.ntmps11
  go_wp2_with fail
  refine HS.out.mono ?_
  rintro e w1 ⟨rfl, hs1, hb1⟩
  have H1 := Lib.hid hs1
  clear hs1
  go_wp2_with fail
  refine (src_one w.heap.size 30 w1 H1.out (by omega)).mono ?_
  rintro e w2 ⟨⟨b, rfl⟩, hd2⟩
  have H2 := Lib.hid hd2
  clear hd2
  cases b
  · go_wp2_with fail
    refine (src_n w.heap.size 20 w2 H2.out.1 (by omega)).mono ?_
    rintro e w3 ⟨r, rfl, h1, h2, h3, h4, h5, h6⟩
    have h2' := h2 (by omega)
    obtain ⟨k, rfl⟩ := Int.eq_ofNat_of_zero_le h1
    have H3 : Hid (Drew w1 w.heap.size w3) := H2.out.trans ⟨h4, h5⟩
    clear h2 h3 h4 h5 h6
    go_wp2_with fail
    refine (src_bytes w.heap.size k w3 H3.out.1 (by omega)).mono ?_
    rintro e w4 ⟨l, rfl, hl, hlb, hd4⟩
    have H4 := Lib.hid hl
    clear hl
    go_wp2
    go_ret
    exact ⟨_, rfl, by rw [strOfNums_size, H4.out]; omega, Drew.bel hb1 (H3.out.trans hd4)⟩
  · go_wp2_with fail
    refine (src_n w.heap.size 3 w2 H2.out.1 (by omega)).mono ?_
    rintro e w3 ⟨r, rfl, h1, h2, h3, h4, h5, h6⟩
    have h2' := h2 (by omega)
    obtain ⟨k, rfl⟩ := Int.eq_ofNat_of_zero_le h1
    have H3 : Hid (Drew w1 w.heap.size w3) := H2.out.trans ⟨h4, h5⟩
    have hk : k < 3 := by omega
    clear h2 h3 h4 h5 h6
    have hb3 : Below w.heap.size w w3 := Drew.bel hb1 H3.out
    have hsz := hb3.size
    go_wp2_with (at_make; refine wpList_make_full _ rfl _ _ 22 rfl w.heap.size 5 i0 (.int .u8 0) 1 Try.underlying22 hi hz0 hz1 .i64 .i64 _ _ (19995 + k) rfl rfl ?b0 ?b1 ?b2 ?b3 hsz ?_)
    case b0 => omega
    case b1 => omega
    case b2 => rw [hz2]; omega
    case b3 => unfold maxLen; omega
    intro w4 hown4 hgrow4
    have hrow4 := row8_made hown4
    have hb4 : Below w.heap.size w w4 := hb3.grown hgrow4 hsz (fun k hk => by cases hk)
    have hcv := OwnI.string (row8_own (base := 0) hrow4 (Nat.zero_le _) (by rw [filled_length _ _ (by simp)]; unfold maxLen; omega)) Try.underlying22 Try.underlying5 Try.underlying9
    rw [filled_length _ _ (by simp)] at hcv
    clear hown4 hgrow4
    go_wp2
    go_ret
    exact ⟨_, rfl, by rw [strOfNums_size, filled_length _ _ (by simp)]; omega, hb4⟩

def SomePair (w : World) (e : Ending) (w' : World) : Prop := ∃ (c : Int) (s : ByteArray), e = .returned (.tuple #[.int .i64 c, .string s]) ∧ s.size ≤ 8 ∧ Below w.heap.size w w'

set_option maxRecDepth 100000 in
set_option maxHeartbeats 1000000 in
theorem drawCrcMore_any (A : Option Addr) (n c : Nat) (w : World) (hn : n ≤ 1048576) (hin : BytesIn w w.heap.size A n) :
    Calls Try.prog 16 #[.slice A n c] w (SomePair w) := by
  have HS := Lib.hid (source_any A n c w hn hin)
  clear hin
  go_enter Try.func16, Try.ntmps16
  go_wp2_with fail
  refine HS.out.mono ?_
  rintro e w1 ⟨rfl, hs1, hb1⟩
  have H1 := Lib.hid hs1
  clear hs1
  go_wp2_with fail
  refine (src_n w.heap.size 9 w1 H1.out (by omega)).mono ?_
  rintro e w2 ⟨r, rfl, h1, h2, h3, h4, h5, h6⟩
  have h2' := h2 (by omega)
  obtain ⟨k, rfl⟩ := Int.eq_ofNat_of_zero_le h1
  have H2 : Hid (Drew w1 w.heap.size w2) := ⟨h4, h5⟩
  clear h2 h3 h4 h5 h6
  go_wp2_with fail
  refine (src_bytes w.heap.size k w2 H2.out.1 (by omega)).mono ?_
  rintro e w3 ⟨l, rfl, hl, hlb, hd3⟩
  have H3 : Hid (Drew w1 w.heap.size w3) := H2.out.trans hd3
  have HL : Hid ((strOfNums l).size ≤ 8) := by show (strOfNums l).size ≤ 8; rw [strOfNums_size, hl]; omega
  clear hl hlb hd3
  generalize strOfNums l = t at *
  go_wp2_with fail
  refine (src_one w.heap.size 5 w3 H3.out.1 (by omega)).mono ?_
  rintro e w4 ⟨⟨b, rfl⟩, hd4⟩
  have H4 : Hid (Drew w1 w.heap.size w4) := H3.out.trans hd4
  clear hd4
  cases b
  · go_wp2_with fail
    refine (src_n w.heap.size 9 w4 H4.out.1 (by omega)).mono ?_
    rintro e w5 ⟨r, rfl, h1, h2, h3, h4, h5, h6⟩
    have h2' := h2 (by omega)
    obtain ⟨k, rfl⟩ := Int.eq_ofNat_of_zero_le h1
    have H5 : Hid (Drew w1 w.heap.size w5) := H4.out.trans ⟨h4, h5⟩
    clear h2 h3 h4 h5 h6
    go_wp2_with fail
    refine (src_bytes w.heap.size k w5 H5.out.1 (by omega)).mono ?_
    rintro e w6 ⟨l, rfl, hl, hlb, hd6⟩
    have H6 : Hid (Drew w1 w.heap.size w6) := H5.out.trans hd6
    clear hl hlb hd6
    generalize strOfNums l = u at *
    go_wp2_with (go_at_call 26; refine (crc_spec u _).mono ?_; rintro e w7 ⟨rfl, rfl⟩)
    go_ret2
    exact ⟨_, _, rfl, HL.out, Drew.bel hb1 H6.out⟩
  · go_wp2_with fail
    refine (src_edge w.heap.size w4 H4.out.1).mono ?_
    rintro e w5 ⟨r, rfl, hr, hd5⟩
    have H5 : Hid (Drew w1 w.heap.size w5) := H4.out.trans hd5
    clear hr hd5
    go_wp2
    go_ret2
    exact ⟨_, _, rfl, HL.out, Drew.bel hb1 H5.out⟩

def AtPost (w : World) (most : Int) (e : Ending) (w' : World) : Prop := ∃ r : Int, e = .returned (.int .i64 r) ∧ 0 ≤ r ∧ (1 < most → r < most) ∧ w = w'
set_option maxRecDepth 100000 in
set_option maxHeartbeats 1000000 in
theorem lwAt_any (A : Option Addr) (n c : Nat) (p most : Int) (B : Nat) (w : World) (hn : n ≤ 1048576) (hin : BytesIn w B A n) (hp : 0 ≤ p) (hp1 : p ≤ 1000000) (hm : 1 < most) (hm1 : most ≤ 1000000) :
    Calls Try.prog 14 #[.slice A n c, .int .i64 p, .int .i64 most] w (AtPost w most) := by
  have hd : decide (most ≤ 1) = false := by simp; omega
  by_cases h0 : n = 0
  · have hb0 : ((n : Int) == 0) = true := by rw [h0]; rfl
    have HI := Lib.hid hin
    have H0 := Lib.hid h0
    clear hin h0
    go_enter Try.func14, Try.ntmps14
    go_wp2
    go_ret
    exact ⟨0, rfl, by omega, fun _ => by omega, rfl⟩
  · have hb0 : ((n : Int) == 0) = false := by simp; omega
    obtain ⟨b, off, rfl, hbg, hv⟩ : ∃ b off, A = some ⟨b, off, none⟩ ∧ b < B ∧ ∀ j, j < n → ∃ v : Nat, v < 256 ∧ w.cell? ⟨b, off + j, none⟩ = some (.int .u8 v) := by
      rcases hin with h | h
      · omega
      · exact h
    obtain ⟨q, rfl⟩ := Int.eq_ofNat_of_zero_le hp
    have hq : q % n < n := Nat.mod_lt _ (by omega)
    obtain ⟨v, hv1, hv2⟩ := hv (q % n) hq
    clear hv
    go_enter Try.func14, Try.ntmps14
    go_wp2
    go_ret
    exact ⟨_, rfl, Int.emod_nonneg _ (by omega), fun _ => Int.emod_lt_of_pos _ (by omega), rfl⟩


end Go.Proofs.Ytdpmneoodolgdaa
