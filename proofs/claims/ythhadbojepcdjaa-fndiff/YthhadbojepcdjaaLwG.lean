/- How the law on maps compares: what is alike is found alike. -/
import Derived.Test.YthhadbojepcdjaaGridS
import Derived.Test.YthhadbojepcdjaaGridF
import Derived.Test.YthhadbojepcdjaaGWalkS
namespace Go.Proofs.Ythhadbojepcdjaa
open Go.RowKit

set_option maxRecDepth 100000 in
set_option maxHeartbeats 400000 in
theorem lwNums_any (A A' : Option Addr) (c c' : Nat) (l : List Int) (w : World) (h : RI w w.heap.size A l) (h' : RI w w.heap.size A' l) (hl : l.length ≤ 1000000000) :
    Calls Try.prog 35 #[.slice A l.length c, .slice A' l.length c'] w fun e w' => e = .returned (.bool true) ∧ Below w.heap.size w w' := by
  have H := Lib.hid h
  have H' := Lib.hid h'
  clear h h'
  go_enter Try.func35, Try.ntmps35
  go_wp2
  go_loopw [5] (fun i wr => ∃ k : Nat, i = .int .i64 k ∧ k ≤ l.length ∧ Still w wr) (fun i _ => l.length - (intOf i).toNat)
  case atStart => exact ⟨0, rfl, Nat.zero_le _, Still.refl _⟩
  case round =>
    obtain ⟨k, rfl, hk, hs⟩ := hrel
    have HST := Lib.hid hs
    by_cases hlt : k < l.length
    · obtain ⟨b, off, rfl, _, hc⟩ := (H.out.still hs).at_ hlt
      obtain ⟨b', off', rfl, _, hc'⟩ := (H'.out.still hs).at_ hlt
      generalize l[k] = x at hc hc'
      clear hs
      go_wp2_with fail
      go_quiet (fail)
      go_wp2
      go_roundw
      case rel => exact ⟨k + 1, by go_num, by omega, HST.out.trans ⟨rfl, rfl, rfl, rfl⟩⟩
      case measure => simp [intOf]; omega
    · go_wp2
      go_ret
      exact ⟨rfl, HST.out.below _⟩

set_option maxRecDepth 100000 in
set_option maxHeartbeats 400000 in
theorem lwGrid_any (side : Int) (A A' : Option Addr) (c c' : Nat) (l : List Int) (w : World) (h : RI w w.heap.size A l) (h' : RI w w.heap.size A' l) (hl : l.length ≤ 1000000000) :
    Calls Try.prog 17 #[.agg #[.int .i64 side, .slice A l.length c], .agg #[.int .i64 side, .slice A' l.length c']] w fun e w' => e = .returned (.bool true) ∧ Below w.heap.size w w' := by
  have HP0 : Hid (PP w side side (.slice A l.length c) (.slice A' l.length c') ((w.alloc (.cells #[.int .i64 side, .slice A l.length c] 25)).alloc (.cells #[.int .i64 side, .slice A' l.length c'] 25))) := by
    refine ⟨(GB.made w side (.slice A l.length c) 25).below ((Below.refl _ _).alloc (B := w.heap.size + 1) (by simp) _) (by omega), ?_, ((Below.refl _ _).alloc (Nat.le_refl _) _).alloc (by simp) _, by simp⟩
    have := GB.made (w.alloc (.cells #[.int .i64 side, .slice A l.length c] 25)) side (.slice A' l.length c') 25
    rw [alloc_size] at this
    exact this
  have HN := Lib.hid (lwNums_any A A' c c' l _ ((h.below HP0.out.bel).mono HP0.out.bel.size) ((h'.below HP0.out.bel).mono HP0.out.bel.size) hl)
  clear h h'
  go_enter Try.func17, Try.ntmps17
  go_wp2_with fail
  refine HN.out.mono ?_
  rintro e w1 ⟨rfl, hb1⟩
  have HB := Lib.hid (HP0.out.bel.trans (hb1.mono HP0.out.bel.size))
  clear hb1
  go_wp2
  go_ret
  exact ⟨rfl, HB.out⟩

/-- Block b holds the fields of a map that was handed back. -/
theorem GC.made2 (w : World) (s s' cd cd' : Int) (v v' : Value) (t : TypeId) : GC ((w.alloc (.cells #[.int .i64 s, v, .int .i64 cd] t)).alloc (.cells #[.int .i64 s', v', .int .i64 cd'] t)) w.heap.size s v cd ∧ GC ((w.alloc (.cells #[.int .i64 s, v, .int .i64 cd] t)).alloc (.cells #[.int .i64 s', v', .int .i64 cd'] t)) (w.heap.size + 1) s' v' cd' := by
  refine ⟨(GC.made w s cd v t).below ((Below.refl _ _).alloc (B := w.heap.size + 1) (by simp) _) (by omega), ?_⟩
  have := GC.made (w.alloc (.cells #[.int .i64 s, v, .int .i64 cd] t)) s' cd' v' t
  rw [alloc_size] at this
  exact this

set_option maxRecDepth 100000 in
set_option maxHeartbeats 400000 in
theorem lwGrids_any (side code : Int) (A A' : Option Addr) (c c' : Nat) (l : List Int) (w : World) (h : RI w w.heap.size A l) (h' : RI w w.heap.size A' l) (hl : l.length ≤ 1000000000) (hr : code = 0 → gridRight side l = true) :
    Calls Try.prog 12 #[.agg #[.int .i64 side, .slice A l.length c, .int .i64 code], .agg #[.int .i64 side, .slice A' l.length c', .int .i64 code]] w fun e w' => e = .returned (.bool true) ∧ Below w.heap.size w w' := by
  obtain ⟨hg1, hg2⟩ := GC.made2 w side side code code (.slice A l.length c) (.slice A' l.length c') 37
  have hb0 : Below w.heap.size w ((w.alloc (.cells #[.int .i64 side, .slice A l.length c, .int .i64 code] 37)).alloc (.cells #[.int .i64 side, .slice A' l.length c', .int .i64 code] 37)) := ((Below.refl _ _).alloc (Nat.le_refl _) _).alloc (by simp) _
  have HN := Lib.hid (lwGrid_any side A A' c c' l _ ((h.below hb0).mono hb0.size) ((h'.below hb0).mono hb0.size) hl)
  have HG1 := Lib.hid hg1
  have HB0 := Lib.hid hb0
  have H := Lib.hid h
  have hz : w.heap.size < ((w.alloc (.cells #[.int .i64 side, .slice A l.length c, .int .i64 code] 37)).alloc (.cells #[.int .i64 side, .slice A' l.length c', .int .i64 code] 37)).heap.size := by simp; omega
  have HZ := Lib.hid hz
  clear h h' hg1 hg2 hb0 hz
  by_cases hc : code = 0
  · have hq : (code != 0) = false := by simpa using hc
    have HRR := Lib.hid (hr hc)
    clear hr hc
    go_enter Try.func12, Try.ntmps12
    go_wp2_with fail
    refine HN.out.mono ?_
    rintro e w1 ⟨rfl, hb1⟩
    have HB1 := Lib.hid (HB0.out.trans (hb1.mono HB0.out.size))
    obtain ⟨c0, c1, c2⟩ := HG1.out.below hb1 HZ.out
    have hR := mRight_any side A c l w1 ((H.out.below HB1.out).mono HB1.out.size) hl
    rw [HRR.out] at hR
    clear hb1
    go_wp2_with fail
    refine hR.mono ?_
    rintro e w2 ⟨rfl, hb2⟩
    have HB2 := Lib.hid (HB1.out.trans (hb2.mono HB1.out.size))
    clear hb2
    go_wp2
    go_ret
    exact ⟨rfl, HB2.out⟩
  · have hq : (code != 0) = true := by simpa using hc
    clear hr hc
    go_enter Try.func12, Try.ntmps12
    go_wp2_with fail
    refine HN.out.mono ?_
    rintro e w1 ⟨rfl, hb1⟩
    have HB1 := Lib.hid (HB0.out.trans (hb1.mono HB0.out.size))
    obtain ⟨c0, c1, c2⟩ := HG1.out.below hb1 HZ.out
    clear hb1
    go_wp2
    go_ret
    exact ⟨rfl, HB1.out⟩
end Go.Proofs.Ythhadbojepcdjaa
