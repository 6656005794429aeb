/- What the law on maps draws: a text. -/
import Derived.Test.YtcadjfnfjakbeaaDrD
import Derived.Test.YtcadjfnfjakbeaaGridT
import Derived.BigQuiet
namespace Go.Proofs.Ytcadjfnfjakbeaa
open Go.RowKit

def SpoilPost (w : World) (g m : Nat) (e : Ending) (w' : World) : Prop := ∃ u : ByteArray, e = .returned (.string u) ∧ u.size ≤ m ∧ Drew w g w'
set_option maxRecDepth 100000 in
set_option maxHeartbeats 1000000 in
theorem spoil_any (g : Nat) (t : ByteArray) (w : World) (h : SrcB w g) (ht : t.size ≤ 1000) :
    Calls Try.prog 60 #[.pointer (some ⟨g, 0, none⟩), .string t] w (SpoilPost w g (t.size + 1)) := by
  have hlt := h.lt
  have H := Lib.hid h
  clear h
  have e0 : IntKind.i64.wrap ((t.size : Int) + 1) = (t.size : Int) + 1 := IntWalk.i64_in _ (by omega)
  go_enter Try.func60, Try.ntmps60
  go_wp2_with fail
  refine (src_n g ((t.size : Int) + 1) w H.out (by omega)).mono ?_
  rintro e w1 ⟨k, rfl, h1, h2, h3, h4, h5, h6⟩
  have hk : k ≤ t.size := by
    by_cases hh : 1 < (t.size : Int) + 1
    · have := h2 hh; omega
    · have := h3 (by omega); omega
  obtain ⟨k, rfl⟩ := Int.eq_ofNat_of_zero_le h1
  have hkt : k ≤ t.size := by omega
  have H1 : Hid (Drew w g w1) := ⟨h4, h5⟩
  clear h2 h3 h4 h5 h6 hk
  go_wp2_with fail
  refine (src_n g 17 w1 H1.out.1 (by omega)).mono ?_
  rintro e w2 ⟨r, rfl, hr1, h2, h3, h4, h5, h6⟩
  have hr2 := h2 (by omega)
  obtain ⟨r, rfl⟩ := Int.eq_ofNat_of_zero_le hr1
  have H2 : Hid (Drew w g w2) := H1.out.trans ⟨h4, h5⟩
  clear h2 h3 h4 h5 h6
  have hcv : ∀ (W : World) (x : Int), (convert 22 9 (.slice (some ⟨W.heap.size, 0, none⟩) 1 1)).run Try.prog (W.alloc (.cells #[.int .u8 x] 5)) = .ok (.string (strOfNums [x])) (W.alloc (.cells #[.int .u8 x] 5)) := fun W x => OwnI.string (OwnI.lit (e := 5) (k := .u8) (w := W) (base := 0) [x] (Nat.zero_le _) (by simp [maxLen])) Try.underlying22 Try.underlying5 Try.underlying9
  have hr3 : r < 17 := by omega
  obtain ⟨ta, hta⟩ : ∃ ta, t.extract 0 k = ta := ⟨_, rfl⟩
  obtain ⟨tb, htb⟩ : ∃ tb, t.extract k t.size = tb := ⟨_, rfl⟩
  have hsa : ta.size ≤ k := by rw [← hta, ByteArray.size_extract]; omega
  have hsb : tb.size ≤ t.size - k := by rw [← htb, ByteArray.size_extract]; omega
  have hso : ∀ x, (strOfNums [x]).size = 1 := fun x => strOfNums_size [x]
  have g1 : ¬ 9223372036854775807 < ta.size + 1 := by omega
  have g2 : ¬ 9223372036854775807 < ta.size + 1 + tb.size := by omega
  by_cases hkl : k = t.size
  · have hq : ((k : Int) == (t.size : Int)) = true := by rw [hkl]; simp
    have HD := Lib.hid fun o => (H2.out.alloc o).more hlt (Below.refl w.heap.size _).drew
    clear hkl
    go_wp2_with fail
    go_region
    go_wp2
    go_ret
    exact ⟨_, rfl, by simp [hso]; omega, HD.out _⟩
  · have hq : ((k : Int) == (t.size : Int)) = false := by simp; omega
    obtain ⟨td, htd⟩ : ∃ td, t.extract (k + 1) t.size = td := ⟨_, rfl⟩
    have hsd : td.size ≤ t.size - (k + 1) := by rw [← htd, ByteArray.size_extract]; omega
    have g3 : ¬ 9223372036854775807 < ta.size + td.size := by omega
    have g4 : ¬ 9223372036854775807 < ta.size + 1 + td.size := by omega
    have hk1 : k + 1 ≤ t.size := by omega
    have ek : IntKind.i64.wrap ((k : Int) + 1) = ((k + 1 : Nat) : Int) := by rw [IntWalk.i64_in _ (by omega)]; omega
    go_wp2_with fail
    refine (src_one g 3 _ (H2.out.alloc _).1 (by omega)).mono ?_
    rintro e w3 ⟨⟨b, rfl⟩, hd3⟩
    have H3 := Lib.hid ((H2.out.alloc _).trans hd3)
    clear hd3
    cases b
    · go_wp2_with fail
      refine (src_one g 2 _ H3.out.1 (by omega)).mono ?_
      rintro e w4 ⟨⟨b, rfl⟩, hd4⟩
      have H4 := Lib.hid (H3.out.trans hd4)
      have HD := Lib.hid (H4.out.more hlt (Below.refl w.heap.size _).drew)
      clear hd4
      cases b
      · go_wp2_with fail
        go_region
        go_wp2
        go_ret
        exact ⟨_, rfl, by simp [hso]; omega, HD.out⟩
      · go_wp2_with fail
        go_region
        go_wp2
        go_ret
        exact ⟨_, rfl, by simp; omega, HD.out⟩
    · have HD := Lib.hid (H3.out.more hlt (Below.refl w.heap.size _).drew)
      go_wp2_with fail
      go_region
      go_wp2
      go_ret
      exact ⟨_, rfl, by simp [hso]; omega, HD.out⟩

def TextArg (w : World) (e : Ending) (w' : World) : Prop := ∃ u : ByteArray, e = .returned (.string u) ∧ u.size ≤ 200 ∧ Below w.heap.size w w'
theorem textOf_size (side : Int) (l : List Int) (h : l.length ≤ 65) : (strOfNums (textOf side l)).size ≤ 130 := by
  rw [strOfNums_size]
  unfold textOf
  split
  · have := textTo_length side l l.length
    omega
  · simp
set_option maxRecDepth 100000 in
set_option maxHeartbeats 1000000 in
theorem drawRead_any (A : Option Addr) (n c : Nat) (w : World) (hn : n ≤ 1048576) (hin : BytesIn w w.heap.size A n) :
    Calls Try.prog 14 #[.slice A n c] w (TextArg w) := by
  have HS := Lib.hid (source_any A n c w hn hin)
  clear hin
  go_enter Try.func14, Try.ntmps14
  go_wp2_with fail
  refine HS.out.mono ?_
  rintro e w1 ⟨rfl, hs1, hb1⟩
  have H1 := Lib.hid hs1
  have HB1 := Lib.hid hb1
  have hz1 := hs1.lt
  clear hs1 hb1
  go_wp2_with fail
  refine (grid_any w.heap.size w1 H1.out).mono ?_
  rintro e w2 ⟨side, A2, c2, l2, rfl, hsm, ho2, hd2⟩
  have HD2 := Lib.hid hd2
  have HO2 := Lib.hid ho2
  have h65 := hsm.2.2.1
  clear hsm ho2 hd2
  go_wp2_with fail
  refine (mText_any side A2 c2 l2 w2 HO2.out.ri (by omega)).mono ?_
  rintro e w3 ⟨rfl, hb3⟩
  have hts := textOf_size side l2 h65
  generalize strOfNums (textOf side l2) = t at *
  have HD3 := Lib.hid (HD2.out.more hz1 (hb3.mono HD2.out.2.size))
  clear hb3
  go_wp2_with fail
  refine (src_n w.heap.size 4 w3 HD3.out.1 (by omega)).mono ?_
  rintro e w4 ⟨r, rfl, h1, h2, h3, h4, h5, h6⟩
  have h2' := h2 (by omega)
  have HD4 : Hid (Drew w1 w.heap.size w4) := HD3.out.trans ⟨h4, h5⟩
  clear h2 h3 h4 h5 h6
  have hr4 : r = 0 ∨ r = 1 ∨ r = 2 ∨ r = 3 := by omega
  rcases hr4 with rfl | rfl | rfl | rfl
  · go_wp2_with fail
    refine (spoil_any w.heap.size t w4 HD4.out.1 (by omega)).mono ?_
    rintro e w5 ⟨u, rfl, hu, hd5⟩
    have HD5 := Lib.hid (HD4.out.trans hd5)
    clear hd5
    go_wp2
    go_ret
    exact ⟨u, rfl, by omega, Drew.bel HB1.out HD5.out⟩
  · have e0 : IntKind.i64.wrap ((t.size : Int) + 1) = (t.size : Int) + 1 := IntWalk.i64_in _ (by omega)
    go_wp2_with fail
    refine (src_n w.heap.size ((t.size : Int) + 1) w4 HD4.out.1 (by omega)).mono ?_
    rintro e w5 ⟨k, rfl, h1', h2, h3, h4, h5, h6⟩
    have hk : k ≤ t.size := by
      by_cases hh : 1 < (t.size : Int) + 1
      · have := h2 hh; omega
      · have := h3 (by omega); omega
    obtain ⟨k, rfl⟩ := Int.eq_ofNat_of_zero_le h1'
    have hkt : k ≤ t.size := by omega
    have HD5 : Hid (Drew w1 w.heap.size w5) := HD4.out.trans ⟨h4, h5⟩
    clear h2 h3 h4 h5 h6 hk
    go_wp2
    go_ret
    exact ⟨_, rfl, by rw [ByteArray.size_extract]; omega, Drew.bel HB1.out HD5.out⟩
  · go_wp2
    go_ret
    exact ⟨t, rfl, by omega, Drew.bel HB1.out HD4.out⟩
  · go_wp2
    go_ret
    exact ⟨t, rfl, by omega, Drew.bel HB1.out HD4.out⟩
end Go.Proofs.Ytcadjfnfjakbeaa
