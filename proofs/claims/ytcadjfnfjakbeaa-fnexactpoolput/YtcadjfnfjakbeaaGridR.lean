/- A map out of its text. -/
import Derived.Test.YtcadjfnfjakbeaaGridT
import Derived.Test.YtcadjfnfjakbeaaGridF
import Derived.Deep.RegionLaw
namespace Go.Proofs.Ytcadjfnfjakbeaa
open Go.RowKit

def rdSide (s : ByteArray) : Nat → Nat
  | 0 => 0
  | k + 1 => if byteAt s k = 10 then rdSide s k + 1 else rdSide s k
def rdTiles (s : ByteArray) : Nat → List Int
  | 0 => []
  | k + 1 => if byteAt s k = 10 then rdTiles s k else rdTiles s k ++ [byteAt s k - 48]
theorem rdSide_le (s : ByteArray) (k : Nat) : rdSide s k ≤ k := by
  induction k with
  | zero => simp [rdSide]
  | succ k ih => rw [rdSide]; split <;> omega
theorem rdTiles_le (s : ByteArray) (k : Nat) : (rdTiles s k).length ≤ k := by
  induction k with
  | zero => simp [rdTiles]
  | succ k ih => rw [rdTiles]; split <;> first | (simp; omega) | omega
def readText (s : ByteArray) : ByteArray := strOfNums (textOf (rdSide s s.size) (rdTiles s s.size))
def readOk (s : ByteArray) : Bool := !s.toList.isEmpty && (readText s).toList == s.toList
def readSide (s : ByteArray) : Int := if s.size ≤ 8000 ∧ readOk s = true then (rdSide s s.size : Int) else 0
def readTiles (s : ByteArray) : List Int := if s.size ≤ 8000 ∧ readOk s = true then rdTiles s s.size else []
def readCode (s : ByteArray) : Int := if s.size ≤ 8000 then (if readOk s then 0 else 3) else 2

set_option maxRecDepth 100000 in
set_option maxHeartbeats 400000 in
theorem mRead_any (s : ByteArray) (w : World) (hmax : s.size ≤ 9223372036854775807) :
    Calls Try.prog 23 #[.string s] w fun e w' => GOut w w' (readSide s) (readTiles s) (readCode s) e := by
  obtain ⟨i0, hi, hz0, hz1, hz2⟩ := info_parts Try.infoInt
  by_cases h8 : s.size ≤ 8000
  · have hbw : Below w.heap.size w ((w.alloc (.cells #[.int .i64 0, .slice none 0 0, .int .i64 0] 29)).alloc (.cells #[.int .i64 0, .slice none 0 0] 25)) := ((Below.refl _ _).alloc (Nat.le_refl _) _).alloc (by simp) _
    go_enter Try.func23, Try.ntmps23
    go_wp2
    go_loopw [4] (fun i wr => ∃ (k : Nat) (A : Option Addr) (c : Nat), i = .int .i64 k ∧ k ≤ s.size ∧ GO wr w.heap.size ∧ GB wr (w.heap.size + 1) (rdSide s k) (.slice A (rdTiles s k).length c) ∧ OwnI 2 .i64 wr (w.heap.size + 1 + 1) (.slice A (rdTiles s k).length c) (rdTiles s k) ∧ Below w.heap.size w wr ∧ w.heap.size + 1 + 1 ≤ wr.heap.size) (fun i _ => s.size - (intOf i).toNat)
    case atStart => exact ⟨0, none, 0, rfl, Nat.zero_le _, (GO.made _ _).below ((Below.refl _ _).alloc (B := w.heap.size + 1) (by simp) _) (by omega), by simpa [rdSide, rdTiles] using GB.made (w.alloc (.cells #[.int .i64 0, .slice none 0 0, .int .i64 0] 29)) 0 (.slice none 0 0) 25, OwnI.nil _ _ _ _, hbw, by simp⟩
    case round =>
      obtain ⟨k, A, c, rfl, hk, hgo, hgb, hown, hb, hsz⟩ := hrel
      have hrs := rdSide_le s k
      have hrt := rdTiles_le s k
      have HGO := Lib.hid hgo
      have HGB := Lib.hid hgb
      have HOW := Lib.hid hown
      have HBB := Lib.hid hb
      clear hb hown
      obtain ⟨c0, c1, c2, f0, f1, f2⟩ := hgo
      obtain ⟨p0, p1, q0, q1⟩ := hgb
      by_cases hlt : k < s.size
      · have hbk := byteAt_eq s k hlt
        have hbr := byteAt_range s k
        rw [hbk] at hbr
        have HB := Lib.hid hbk
        have hb0 := hbr.1
        have hb1 := hbr.2
        clear hbk hbr
        by_cases h10 : ((s[k].toNat : Int) = 10)
        · have hbq : ((s[k].toNat : Int) == 10) = true := by simpa using h10
          have H10 := Lib.hid h10
          clear h10
          go_wp2
          go_roundw
          case rel =>
            have e1 : rdSide s (k + 1) = rdSide s k + 1 := by rw [rdSide, HB.out, if_pos H10.out]
            have e2 : rdTiles s (k + 1) = rdTiles s k := by rw [rdTiles, HB.out, if_pos H10.out]
            refine ⟨k + 1, A, c, by go_num, by omega, HGO.out.far (by simp) _, ?_, ?_, HBB.out.setCell (by simp) _, by simpa [World.setCell] using hsz⟩
            · rw [e1, e2]
              exact HGB.out.set0 _
            · rw [e2]
              exact OwnI.set_below (by show w.heap.size + 1 < _; omega) _ HOW.out
          case measure => simp [intOf]; omega
        · have hbq : ((s[k].toNat : Int) == 10) = false := by simpa using h10
          have H10 := Lib.hid h10
          clear h10
          have hw47 : IntKind.i64.wrap (s[k].toNat : Int) = (s[k].toNat : Int) := IntWalk.i64_in _ (by omega)
          have hw48 : IntKind.i64.wrap ((s[k].toNat : Int) - 48) = (s[k].toNat : Int) - 48 := IntWalk.i64_in _ (by omega)
          have HA := Lib.hid (HOW.out.alloc (.cells #[.int .i64 ((s[k].toNat : Int) - 48)] 2)).drew
          have HX : Hid (∀ j (h : j < [(s[k].toNat : Int) - 48].length), (wr.alloc (.cells #[.int .i64 ((s[k].toNat : Int) - 48)] 2)).drew.cell? ⟨wr.heap.size, 0 + j, none⟩ = some (.int .i64 [(s[k].toNat : Int) - 48][j])) := by
            show ∀ j (h : j < [(s[k].toNat : Int) - 48].length), _
            intro j hj
            obtain rfl : j = 0 := by simpa using hj
            simp [go_sem]
          have HG2 := Lib.hid (HGB.out.below (((Below.refl (w.heap.size + 1 + 1) wr).alloc hsz (.cells #[.int .i64 ((s[k].toNat : Int) - 48)] 2)).drew) (by omega))
          obtain ⟨g0, g1, g2, g3⟩ := HG2.out
          have hnw : ¬ (w.heap.size + 1 = wr.heap.size) := by omega
          go_wp2_with fail
          go_region_law ((refine step_append_ints Try.underlying23 hi hz0 hz1 hz2 (by decide) (by rfl) _ _ (by rfl) (w.heap.size + 1 + 1) _ _ [(s[k].toNat : Int) - 48] _ wr.heap.size 0 1 HA.out (by rfl) (by rfl) HX.out (Nat.zero_lt_one) (by simp <;> omega) (by simp <;> omega) ?_; intro g cap w1 hown1 hb1; obtain ⟨p0', p1', q0', q1'⟩ := HG2.out.below hb1 (by omega)))
          all_goals
            have HW1 := Lib.hid hown1
            have HB1 := Lib.hid ((((Below.refl (w.heap.size + 1 + 1) wr).alloc hsz (.cells #[.int .i64 ((s[k].toNat : Int) - 48)] 2)).drew).trans hb1)
            have e1 : rdSide s (k + 1) = rdSide s k := by rw [rdSide, HB.out, if_neg H10.out]
            have e2 : rdTiles s (k + 1) = rdTiles s k ++ [(s[k].toNat : Int) - 48] := by rw [rdTiles, HB.out, if_neg H10.out]
            clear hown1 hb1 g0 g1 g2 g3 hnw
            go_wp2
            go_roundw
            case rel =>
              refine ⟨k + 1, some ⟨g, 0, none⟩, cap, by go_num, by omega, (HGO.out.below (HB1.out.mono (by omega)) (Nat.lt_succ_self _)).far (by simp) _, ?_, ?_, (HBB.out.trans (HB1.out.mono (by omega))).setCell (by simp) _, ?_⟩
              · rw [e1, e2]
                simpa using (HGB.out.below HB1.out (by omega)).set1 (.slice (some ⟨g, 0, none⟩) (rdTiles s k ++ [(s[k].toNat : Int) - 48]).length cap)
              · rw [e2]
                have := HW1.out
                rw [← List.length_append] at this
                exact OwnI.set_below (by show w.heap.size + 1 < _; omega) _ this
              · have := HB1.out.size
                simp [World.setCell]
                omega
            case measure => simp [intOf]; omega
      · have ek : k = s.size := by omega
        subst ek
        have hT := mText_any (rdSide s s.size) A c (rdTiles s s.size) wr HOW.out.ri (by omega)
        have HRT := Lib.hid (show strOfNums (textOf (rdSide s s.size) (rdTiles s s.size)) = readText s from rfl)
        rw [HRT.out] at hT
        have HT := Lib.hid hT
        clear hT
        have hw := hsz
        have hw1 : w.heap.size + 1 < wr.heap.size := by omega
        have hw2 : w.heap.size < wr.heap.size := by omega
        cases he : s.toList.isEmpty
        · cases hq : ((readText s).toList == s.toList)
          · have HE := Lib.hid he
            have HQ := Lib.hid hq
            go_wp2_with fail
            refine HT.out.mono ?_
            rintro e w1 ⟨rfl, hb1⟩
            obtain ⟨hc1, hf1⟩ := bcell hb1
            have HB1 := Lib.hid (HBB.out.trans (hb1.mono HBB.out.size))
            have hz1 : w.heap.size < w1.heap.size := by have := hb1.size; omega
            clear hb1
            go_wp2_with fail
            refine (mIll_any 3 _).mono ?_
            rintro e w4 ⟨rfl, hb4⟩
            obtain ⟨hc4, hf4⟩ := bcell hb4
            have HB4 := Lib.hid (HB1.out.trans (hb4.mono HB1.out.size))
            clear hb4
            go_wp2
            refine bodyPost_ret (v := .agg #[.int .i64 0, .slice none 0 0, .int .i64 3]) (by simp [results, Try.results23, go_sem, hc4, hc1, hz1, hw2, c0, c1, c2]) rfl ?_
            have hok : readOk s = false := by rw [readOk, HE.out, HQ.out]; rfl
            simp only [readSide, readTiles, readCode, hok, h8]
            exact ⟨none, 0, rfl, OwnI.nil _ _ _ _, ((HB4.out.setCell (by simp) _).setCell (by simp) _).setCell (by simp) _⟩
          · have HE := Lib.hid he
            have HQ := Lib.hid hq
            go_wp2_with fail
            refine HT.out.mono ?_
            rintro e w1 ⟨rfl, hb1⟩
            obtain ⟨hc1, hf1⟩ := bcell hb1
            have HB1 := Lib.hid (HBB.out.trans (hb1.mono HBB.out.size))
            have HO1 := Lib.hid (HOW.out.keep hb1)
            have hz1 : w.heap.size < w1.heap.size := by have := hb1.size; omega
            clear hb1
            go_wp2
            refine bodyPost_ret (v := .agg #[.int .i64 (rdSide s s.size), .slice A (rdTiles s s.size).length c, .int .i64 0]) (by simp [results, Try.results23, go_sem, hc1, hw2, c0, c1, c2]) rfl ?_
            have hok : readOk s = true := by rw [readOk, HE.out, HQ.out]; rfl
            simp only [readSide, readTiles, readCode, hok, h8]
            refine ⟨A, c, rfl, ?_, ((HB1.out.setCell (by simp) _).setCell (by simp) _).setCell (by simp) _⟩
            exact OwnI.lower (base := w.heap.size + 1 + 1) (by omega) (OwnI.set_below (by show w.heap.size < _; omega) _ (OwnI.set_below (by show w.heap.size < _; omega) _ (OwnI.set_below (by show w.heap.size < _; omega) _ HO1.out)))
        · have HE := Lib.hid he
          go_wp2_with fail
          refine (mIll_any 3 _).mono ?_
          rintro e w4 ⟨rfl, hb4⟩
          obtain ⟨hc4, hf4⟩ := bcell hb4
          have HB4 := Lib.hid (HBB.out.trans (hb4.mono HBB.out.size))
          clear hb4
          go_wp2
          refine bodyPost_ret (v := .agg #[.int .i64 0, .slice none 0 0, .int .i64 3]) (by simp [results, Try.results23, go_sem, hc4, hw2, c0, c1, c2]) rfl ?_
          have hok : readOk s = false := by rw [readOk, HE.out]; rfl
          simp only [readSide, readTiles, readCode, hok, h8]
          exact ⟨none, 0, rfl, OwnI.nil _ _ _ _, ((HB4.out.setCell (by simp) _).setCell (by simp) _).setCell (by simp) _⟩
  · go_enter Try.func23, Try.ntmps23
    go_wp2_with fail
    refine (mIll_any 2 _).mono ?_
    rintro e w4 ⟨rfl, hb4⟩
    obtain ⟨hc4, hf4⟩ := bcell hb4
    have hz : w.heap.size < w4.heap.size := by have := hb4.size; simp at this; omega
    have HB4 := Lib.hid (((Below.refl w.heap.size w).alloc (Nat.le_refl _) _).trans (hb4.mono (by simp)))
    clear hb4
    go_wp2
    refine bodyPost_ret (v := .agg #[.int .i64 0, .slice none 0 0, .int .i64 2]) (by simp [results, Try.results23, go_sem, hc4]) rfl ?_
    simp only [readSide, readTiles, readCode, h8, false_and, if_false]
    exact ⟨none, 0, rfl, OwnI.nil _ _ _ _, ((HB4.out.setCell (by simp) _).setCell (by simp) _).setCell (by simp) _⟩
end Go.Proofs.Ytcadjfnfjakbeaa
