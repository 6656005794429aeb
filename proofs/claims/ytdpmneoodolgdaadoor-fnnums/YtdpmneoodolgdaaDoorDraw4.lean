/- What the law on numbers draws. -/
import Derived.Test.YtdpmneoodolgdaaDoorDraw2
import Derived.Test.YtdpmneoodolgdaaDoorJoin
namespace Go.Proofs.YtdpmneoodolgdaaDoor
open Go.RowKit

set_option maxRecDepth 100000 in
set_option maxHeartbeats 1000000 in
theorem drawPutText_any (A : Option Addr) (n c : Nat) (w : World) (hn : n ≤ 1048576) (hin : BytesIn w w.heap.size A n) :
    Calls Tryd.prog 10 #[.slice A n c] w (SomeStr w 20001) := by
  obtain ⟨i0, hi, hz0, hz1, hz2⟩ := info_parts Tryd.infoByte
  have HS := Lib.hid (source_any A n c w hn hin)
  clear hin
  go_enter Tryd.func10, Tryd.ntmps10
  go_wp2_with fail
  refine HS.out.mono ?_
  rintro e w1 ⟨rfl, hs1, hb1⟩
  have H1 := Lib.hid hs1
  clear hs1
  go_wp2_with fail
  refine (src_one w.heap.size 8 w1 H1.out (by omega)).mono ?_
  rintro e w2 ⟨⟨b, rfl⟩, hd2⟩
  have H2 := Lib.hid hd2
  clear hd2
  cases b
  · go_wp2_with fail
    refine (src_n w.heap.size 20 w2 H2.out.1 (by omega)).mono ?_
    rintro e w3 ⟨r, rfl, h1, h2, h3, h4, h5, h6⟩
    have h2' := h2 (by omega)
    obtain ⟨k, rfl⟩ := Int.eq_ofNat_of_zero_le h1
    have H3 : Hid (Drew w1 w.heap.size w3) := H2.out.trans ⟨h4, h5⟩
    clear h2 h3 h4 h5 h6
    go_wp2_with fail
    refine (src_bytes w.heap.size k w3 H3.out.1 (by omega)).mono ?_
    rintro e w4 ⟨l, rfl, hl, hlb, hd4⟩
    have H4 := Lib.hid hl
    clear hl
    go_wp2
    go_ret
    exact ⟨_, rfl, by rw [strOfNums_size, H4.out]; omega, Drew.bel hb1 (H3.out.trans hd4)⟩
  · go_wp2_with fail
    refine (src_n w.heap.size 3 w2 H2.out.1 (by omega)).mono ?_
    rintro e w3 ⟨r, rfl, h1, h2, h3, h4, h5, h6⟩
    have h2' := h2 (by omega)
    obtain ⟨k, rfl⟩ := Int.eq_ofNat_of_zero_le h1
    have H3 : Hid (Drew w1 w.heap.size w3) := H2.out.trans ⟨h4, h5⟩
    have hk : k < 3 := by omega
    clear h2 h3 h4 h5 h6
    have hb3 : Below w.heap.size w w3 := Drew.bel hb1 H3.out
    have hsz := hb3.size
    go_wp2_with (at_make; refine wpList_make_full _ rfl _ _ 22 rfl w.heap.size 5 i0 (.int .u8 0) 1 Tryd.underlying22 hi hz0 hz1 .i64 .i64 _ _ (19999 + k) rfl rfl ?b0 ?b1 ?b2 ?b3 hsz ?_)
    case b0 => omega
    case b1 => omega
    case b2 => rw [hz2]; omega
    case b3 => unfold maxLen; omega
    intro w4 hown4 hgrow4
    have hrow4 := row8_made hown4
    have hb4 : Below w.heap.size w w4 := hb3.grown hgrow4 hsz (fun k hk => by cases hk)
    have hcv := OwnI.string (row8_own (base := 0) hrow4 (Nat.zero_le _) (by rw [filled_length _ _ (by simp)]; unfold maxLen; omega)) Tryd.underlying22 Tryd.underlying5 Tryd.underlying9
    rw [filled_length _ _ (by simp)] at hcv
    clear hown4 hgrow4
    go_wp2
    go_ret
    exact ⟨_, rfl, by rw [strOfNums_size, filled_length _ _ (by simp)]; omega, hb4⟩


set_option maxRecDepth 100000 in
set_option maxHeartbeats 1000000 in
theorem l01Any_any (g : Nat) (w : World) (h : SrcB w g) : Calls Tryd.prog 19 #[.pointer (some ⟨g, 0, none⟩)] w (EdgePost w g) := by
  have H0 := Lib.hid h
  clear h
  go_enter Tryd.func19, Tryd.ntmps19
  go_wp2_with fail
  refine (src_one g 4 w H0.out (by omega)).mono ?_
  rintro e w1 ⟨⟨b, rfl⟩, hd1⟩
  have H1 := Lib.hid hd1
  clear hd1
  cases b
  · go_wp2_with fail
    refine (src_n g 1099511627776 w1 H1.out.1 (by omega)).mono ?_
    rintro e w2 ⟨r, rfl, h1, h2, h3, h4, h5, h6⟩
    have h2' := h2 (by omega)
    have H2 : Hid (Drew w g w2) := H1.out.trans ⟨h4, h5⟩
    clear h2 h3 h4 h5 h6
    go_wp2
    go_ret
    exact ⟨_, rfl, by omega, H2.out⟩
  · go_wp2_with fail
    refine (src_edge g w1 H1.out.1).mono ?_
    rintro e w2 ⟨r, rfl, hr, hd2⟩
    have HR := Lib.hid hr
    have H2 : Hid (Drew w g w2) := H1.out.trans hd2
    clear hr hd2
    go_wp2
    go_ret
    exact ⟨_, rfl, HR.out, H2.out⟩

def SomeInt (w : World) (e : Ending) (w' : World) : Prop := ∃ r : Int, e = .returned (.int .i64 r) ∧ (-9223372036854775808 ≤ r ∧ r ≤ 9223372036854775807) ∧ Below w.heap.size w w'
set_option maxRecDepth 100000 in
set_option maxHeartbeats 1000000 in
theorem drawPutNum_any (A : Option Addr) (n c : Nat) (w : World) (hn : n ≤ 1048576) (hin : BytesIn w w.heap.size A n) :
    Calls Tryd.prog 6 #[.slice A n c] w (SomeInt w) := by
  have HS := Lib.hid (source_any A n c w hn hin)
  clear hin
  go_enter Tryd.func6, Tryd.ntmps6
  go_wp2_with fail
  refine HS.out.mono ?_
  rintro e w1 ⟨rfl, hs1, hb1⟩
  have H1 := Lib.hid hs1
  clear hs1
  go_wp2_with fail
  refine (l01Any_any w.heap.size w1 H1.out).mono ?_
  rintro e w2 ⟨r, rfl, hr, hd2⟩
  have HR := Lib.hid hr
  clear hr
  go_wp2
  go_ret
  exact ⟨_, rfl, HR.out, Drew.bel hb1 hd2⟩
end Go.Proofs.YtdpmneoodolgdaaDoor
