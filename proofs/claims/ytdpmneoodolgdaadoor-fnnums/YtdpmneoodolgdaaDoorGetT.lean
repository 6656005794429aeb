/- GetText of the program and of its model. -/
import Derived.Test.YtdpmneoodolgdaaDoorGetN
import Derived.Test.YtdpmneoodolgdaaDoorJoin
import Derived.RegionTactic
import Derived.BigRegion
import Derived.IntWalk
namespace Go.Proofs.YtdpmneoodolgdaaDoor
open Go.RowKit

theorem rd_at (s : ByteArray) : ∀ (f p k u : Nat), (rd s f p k u).2.2 = 0 → ∃ a : Nat, (rd s f p k u).2.1 = a ∧ a ≤ s.size
  | 0, _, _, _, h => by simp [rd] at h
  | f + 1, p, k, u, h => by
    rw [rd] at h ⊢
    by_cases h1 : s.size ≤ p
    · rw [if_pos h1] at h; simp at h
    · rw [if_neg h1] at h ⊢
      by_cases h2 : k = 9 ∧ 1 < byteN s p
      · rw [if_pos h2] at h; simp at h
      · rw [if_neg h2] at h ⊢
        by_cases h3 : byteN s p < 128
        · rw [if_pos h3] at h ⊢
          by_cases h4 : byteN s p = 0 ∧ 0 < k
          · rw [if_pos h4] at h; simp at h
          · rw [if_neg h4]
            exact ⟨p + 1, by simp, by omega⟩
        · rw [if_neg h3] at h ⊢
          exact rd_at s f _ _ _ h
theorem rdOf_at (s : ByteArray) (q : Int) (h : (rdOf s q).2.2 = 0) : s.size ≤ 8000 ∧ ∃ a : Nat, (rdOf s q).2.1 = a ∧ a ≤ s.size := by
  unfold rdOf at *
  by_cases h1 : 8000 < s.size
  · rw [if_pos h1] at h; simp at h
  · rw [if_neg h1] at h ⊢
    by_cases h2 : q < 0
    · rw [if_pos h2] at h; simp at h
    · rw [if_neg h2] at h ⊢
      exact ⟨by omega, rd_at s _ _ _ _ h⟩

/-- What reading a text comes to, out of what reading its length came to. -/
def gt3 (s : ByteArray) (r : Int × Int × Int) : ByteArray × Int × Int :=
  if r.2.2 ≠ 0 then (⟨#[]⟩, 0, r.2.2)
  else if r.1 < 0 ∨ 8000 < r.1 then (⟨#[]⟩, 0, 3)
  else if (s.size : Int) - r.2.1 < r.1 then (⟨#[]⟩, 0, 4)
  else (s.extract r.2.1.toNat (r.2.1 + r.1).toNat, r.2.1 + r.1, 0)
def textRes (t : ByteArray × Int × Int) : Value := .tuple #[.string t.1, .int .i64 t.2.1, errV t.2.2]
def textOut (t : ByteArray × Int × Int) : Value := .agg #[.string t.1, .int .i64 t.2.1, .int .i64 t.2.2]

set_option maxHeartbeats 1000000 in
theorem readText_all (s : ByteArray) (q : Int) (w : World) (hs : s.size ≤ maxLen) :
    Calls Tryd.prog 28 #[.string s, .int .i64 q] w fun e w' => e = .returned (textRes (gt3 s (rdOf s q))) ∧ Below w.heap.size w w' := by
  have hr := readNum_all s q w hs
  have hat := rdOf_at s q
  generalize rdOf s q = r at *
  obtain ⟨n, a, c⟩ := r
  unfold numRes at hr
  simp only at hr hat
  unfold maxLen at hs
  by_cases hc : c = 0
  · subst hc
    obtain ⟨hsz, at_, rfl, hle⟩ := hat rfl
    clear hat
    simp only [errV, if_true] at hr
    have HR := Lib.hid hr
    clear hr
    by_cases hn0 : n < 0
    · have HT : Hid (gt3 s (n, (at_ : Int), 0) = (⟨#[]⟩, 0, 3)) := by show gt3 _ _ = _; simp [gt3, hn0]
      go_enter Tryd.func28, Tryd.ntmps28
      go_wp2_with (go_at_call 22; refine HR.out.mono ?_; rintro e w1 ⟨rfl, hb1⟩)
      go_ret3
      exact ⟨by rw [HT.out]; simp [textRes, errV], hb1⟩
    by_cases hn1 : 8000 < n
    · have HT : Hid (gt3 s (n, (at_ : Int), 0) = (⟨#[]⟩, 0, 3)) := by show gt3 _ _ = _; simp [gt3, hn1]
      go_enter Tryd.func28, Tryd.ntmps28
      go_wp2_with (go_at_call 22; refine HR.out.mono ?_; rintro e w1 ⟨rfl, hb1⟩)
      go_ret3
      exact ⟨by rw [HT.out]; simp [textRes, errV], hb1⟩
    by_cases hn2 : (s.size : Int) - (at_ : Int) < n
    · have HT : Hid (gt3 s (n, (at_ : Int), 0) = (⟨#[]⟩, 0, 4)) := by show gt3 _ _ = _; simp [gt3, hn0, hn1, hn2]
      go_enter Tryd.func28, Tryd.ntmps28
      go_wp2_with (go_at_call 22; refine HR.out.mono ?_; rintro e w1 ⟨rfl, hb1⟩)
      go_ret3
      exact ⟨by rw [HT.out]; simp [textRes, errV], hb1⟩
    obtain ⟨m, rfl⟩ := Int.eq_ofNat_of_zero_le (show 0 ≤ n by omega)
    have HT : Hid (gt3 s ((m : Int), (at_ : Int), 0) = (s.extract at_ (at_ + m), (at_ : Int) + (m : Int), 0)) := by
      show gt3 _ _ = _
      have e : ((at_ : Int) + (m : Int)).toNat = at_ + m := by omega
      simp [gt3, hn1, hn2, e]
    go_enter Tryd.func28, Tryd.ntmps28
    go_wp2_with (go_at_call 22; refine HR.out.mono ?_; rintro e w1 ⟨rfl, hb1⟩)
    refine (join_one _ w1 (by simp; omega)).mono ?_
    rintro e w2 ⟨rfl, hb2⟩
    go_wp2
    go_ret3
    exact ⟨by rw [HT.out]; simp [textRes, errV], hb1.trans (hb2.mono hb1.size)⟩
  · have HT : Hid (gt3 s (n, a, c) = (⟨#[]⟩, 0, c)) := by show gt3 _ _ = _; simp [gt3, hc]
    simp only [errV, if_neg hc] at hr
    have HR := Lib.hid hr
    have HC := Lib.hid hc
    clear hr hat hc
    go_enter Tryd.func28, Tryd.ntmps28
    go_wp2_with (go_at_call 22; refine HR.out.mono ?_; rintro e w1 ⟨rfl, hb1⟩)
    go_ret3
    exact ⟨by rw [HT.out]; simp [textRes, errV, HC.out], hb1⟩

set_option maxHeartbeats 400000 in
theorem getText_impl (s : ByteArray) (q : Int) (w : World) (hs : s.size ≤ maxLen) (hg : HasErr w) :
    Calls Tryd.prog 13 #[.string s, .int .i64 q] w fun e w' => e = .returned (textOut (gt3 s (rdOf s q))) ∧ Below w.heap.size w w' := by
  have hg1 := hg.alloc (.cells #[.string ⟨#[]⟩, .int .i64 0, .int .i64 0] 31)
  have hr := readText_all s q (w.alloc (.cells #[.string ⟨#[]⟩, .int .i64 0, .int .i64 0] 31)) hs
  generalize gt3 s (rdOf s q) = r at *
  obtain ⟨n, at_, c⟩ := r
  unfold textRes at hr
  have HR := Lib.hid hr
  have HG := Lib.hid hg1
  clear hs hg hg1 hr
  go_enter Tryd.func13, Tryd.ntmps13
  go_wp2_with (go_at_call 28; refine HR.out.mono ?_; rintro e w1 ⟨rfl, hb1⟩)
  refine (faultCode_any c w1 (HG.out.below hb1)).mono ?_
  rintro e w2 ⟨rfl, hb2⟩
  have hb3 := hb1.trans (hb2.mono hb1.size)
  have hc1 := fun o => (bcell hb3).1 w.heap.size o (by simp)
  have hf1 := fun o => (bcell hb3).2 w.heap.size o (by simp)
  have hz1 : w.heap.size < w2.heap.size := by have := hb3.size; simp at this; omega
  go_wp2
  exact bodyPost_ret (v := textOut (n, at_, c)) (by simp [results, Tryd.results13, go_sem, textOut, hc1]) rfl ⟨rfl, (((((Below.refl _ _).alloc (Nat.le_refl _) _).trans (hb3.mono (by simp))).setCell (by simp) _).setCell (by simp) _).setCell (by simp) _⟩

set_option maxRecDepth 100000 in
set_option maxHeartbeats 1000000 in
theorem getText_spec (s : ByteArray) (q : Int) (w : World) (hs : s.size ≤ maxLen) (hq : q ≤ 9223372036854775807) :
    Calls Tryd.prog 16 #[.string s, .int .i64 q] w fun e w' => e = .returned (textOut (gt3 s (rdOf s q))) ∧ Below w.heap.size w w' := by
  have hr := getNum_spec s q (w.alloc (.cells #[.string ⟨#[]⟩, .int .i64 0, .int .i64 0] 31)) hs hq
  have hat := rdOf_at s q
  generalize rdOf s q = r at *
  obtain ⟨n, a, c⟩ := r
  unfold numOut at hr
  simp only at hr hat
  unfold maxLen at hs
  clear hq
  have HR := Lib.hid hr
  clear hr
  cases hc : (c != 0)
  · have hc0 : c = 0 := by simpa using hc
    subst hc0
    obtain ⟨hsz, at_, rfl, hle⟩ := hat rfl
    clear hat
    by_cases hn0 : n < 0
    · have HT : Hid (gt3 s (n, (at_ : Int), 0) = (⟨#[]⟩, 0, 3)) := by show gt3 _ _ = _; simp [gt3, hn0]
      go_enter Tryd.func16, Tryd.ntmps16
      go_wp2_with (go_at_call 14; refine HR.out.mono ?_; rintro e w1 ⟨rfl, hb1⟩; have hc1 := (fun o => (bcell hb1).1 w.heap.size o (by simp)); have hf1 := (fun o => (bcell hb1).2 w.heap.size o (by simp)); have hz1 : w.heap.size < w1.heap.size := by have := hb1.size; simp at this; omega)
      have hbw : Below w.heap.size w w1 := ((Below.refl w.heap.size w).alloc (Nat.le_refl _) _).trans (hb1.mono (by simp))
      exact bodyPost_ret (v := textOut (⟨#[]⟩, 0, 3)) (by simp [results, Tryd.results16, go_sem, textOut, hc1, hz1]) rfl ⟨by rw [HT.out], (((hbw.setCell (Nat.le_refl _) _).setCell (Nat.le_refl _) _).setCell (Nat.le_refl _) _).alloc (by simp; omega) _⟩
    by_cases hn1 : 8000 < n
    · have HT : Hid (gt3 s (n, (at_ : Int), 0) = (⟨#[]⟩, 0, 3)) := by show gt3 _ _ = _; simp [gt3, hn1]
      go_enter Tryd.func16, Tryd.ntmps16
      go_wp2_with (go_at_call 14; refine HR.out.mono ?_; rintro e w1 ⟨rfl, hb1⟩; have hc1 := (fun o => (bcell hb1).1 w.heap.size o (by simp)); have hf1 := (fun o => (bcell hb1).2 w.heap.size o (by simp)); have hz1 : w.heap.size < w1.heap.size := by have := hb1.size; simp at this; omega)
      have hbw : Below w.heap.size w w1 := ((Below.refl w.heap.size w).alloc (Nat.le_refl _) _).trans (hb1.mono (by simp))
      exact bodyPost_ret (v := textOut (⟨#[]⟩, 0, 3)) (by simp [results, Tryd.results16, go_sem, textOut, hc1, hz1]) rfl ⟨by rw [HT.out], (((hbw.setCell (Nat.le_refl _) _).setCell (Nat.le_refl _) _).setCell (Nat.le_refl _) _).alloc (by simp; omega) _⟩
    by_cases hn2 : (s.size : Int) - (at_ : Int) < n
    · have HT : Hid (gt3 s (n, (at_ : Int), 0) = (⟨#[]⟩, 0, 4)) := by show gt3 _ _ = _; simp [gt3, hn0, hn1, hn2]
      go_enter Tryd.func16, Tryd.ntmps16
      go_wp2_with (go_at_call 14; refine HR.out.mono ?_; rintro e w1 ⟨rfl, hb1⟩; have hc1 := (fun o => (bcell hb1).1 w.heap.size o (by simp)); have hf1 := (fun o => (bcell hb1).2 w.heap.size o (by simp)); have hz1 : w.heap.size < w1.heap.size := by have := hb1.size; simp at this; omega)
      have hbw : Below w.heap.size w w1 := ((Below.refl w.heap.size w).alloc (Nat.le_refl _) _).trans (hb1.mono (by simp))
      exact bodyPost_ret (v := textOut (⟨#[]⟩, 0, 4)) (by simp [results, Tryd.results16, go_sem, textOut, hc1, hz1]) rfl ⟨by rw [HT.out], (((hbw.setCell (Nat.le_refl _) _).setCell (Nat.le_refl _) _).setCell (Nat.le_refl _) _).alloc (by simp; omega) _⟩
    obtain ⟨m, rfl⟩ := Int.eq_ofNat_of_zero_le (show 0 ≤ n by omega)
    have HT : Hid (gt3 s ((m : Int), (at_ : Int), 0) = (s.extract at_ (at_ + m), (at_ : Int) + (m : Int), 0)) := by
      show gt3 _ _ = _
      have e : ((at_ : Int) + (m : Int)).toNat = at_ + m := by omega
      simp [gt3, hn1, hn2, e]
    go_enter Tryd.func16, Tryd.ntmps16
    go_wp2_with (go_at_call 14; refine HR.out.mono ?_; rintro e w1 ⟨rfl, hb1⟩; have hc1 := (fun o => (bcell hb1).1 w.heap.size o (by simp)); have hf1 := (fun o => (bcell hb1).2 w.heap.size o (by simp)); have hz1 : w.heap.size < w1.heap.size := by have := hb1.size; simp at this; omega)
    have e1 : IntKind.i64.wrap ((at_ : Int) + (m : Int)) = (at_ : Int) + (m : Int) := IntWalk.i64_in _ (by omega)
    have e2 : (0 : Int) ≤ (at_ : Int) + (m : Int) := by omega
    have e3 : ((at_ : Int) + (m : Int)).toNat = at_ + m := by omega
    have e4 : (at_ : Int) + (m : Int) ≤ (s.size : Int) := by omega
    have e5 : (at_ : Int) ≤ (at_ : Int) + (m : Int) := by omega
    go_region
    clear e1 e2 e3 e4 e5
    go_wp2
    have hbw : Below w.heap.size w w1 := ((Below.refl w.heap.size w).alloc (Nat.le_refl _) _).trans (hb1.mono (by simp))
    exact bodyPost_ret (v := textOut (s.extract at_ (at_ + m), (at_ : Int) + (m : Int), 0)) (by simp [results, Tryd.results16, go_sem, textOut, hc1, hz1]) rfl ⟨by rw [HT.out], ((((hbw.setCell (Nat.le_refl _) _).setCell (Nat.le_refl _) _).setCell (Nat.le_refl _) _).alloc (by simp; omega) _).drew⟩
  · have HT : Hid (gt3 s (n, a, c) = (⟨#[]⟩, 0, c)) := by show gt3 _ _ = _; simp [gt3]; intro h; simp [h] at hc
    clear hat
    go_enter Tryd.func16, Tryd.ntmps16
    go_wp2_with (go_at_call 14; refine HR.out.mono ?_; rintro e w1 ⟨rfl, hb1⟩; have hc1 := (fun o => (bcell hb1).1 w.heap.size o (by simp)); have hf1 := (fun o => (bcell hb1).2 w.heap.size o (by simp)); have hz1 : w.heap.size < w1.heap.size := by have := hb1.size; simp at this; omega)
    have hbw : Below w.heap.size w w1 := ((Below.refl w.heap.size w).alloc (Nat.le_refl _) _).trans (hb1.mono (by simp))
    exact bodyPost_ret (v := textOut (⟨#[]⟩, 0, c)) (by simp [results, Tryd.results16, go_sem, textOut, hc1, hz1]) rfl ⟨by rw [HT.out], (((hbw.setCell (Nat.le_refl _) _).setCell (Nat.le_refl _) _).setCell (Nat.le_refl _) _).alloc (by simp; omega) _⟩

end Go.Proofs.YtdpmneoodolgdaaDoor
