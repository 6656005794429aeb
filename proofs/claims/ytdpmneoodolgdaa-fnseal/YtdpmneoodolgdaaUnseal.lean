/- Unseal of the program and of its model. -/
import Derived.Test.YtdpmneoodolgdaaSeal
import Derived.Deep.RegionWith
import Derived.IntWalk
import Derived.Lib.SmallJoins
import Derived.Lib.Split
import Derived.Lib.IndexBytes
namespace Go.Proofs.Ytdpmneoodolgdaa
open Go.RowKit

theorem bcell {W w1 : World} {B : Nat} (hb : Below B W w1) : (∀ b o, b < B → w1.cell? ⟨b, o, none⟩ = W.cell? ⟨b, o, none⟩) ∧ (∀ b o, b < B → w1.frozen? ⟨b, o, none⟩ = W.frozen? ⟨b, o, none⟩) :=
  ⟨fun b o h => hb.cell (p := ⟨b, o, none⟩) h, fun b o h => hb.frozen (p := ⟨b, o, none⟩) h⟩

def textOut (t : ByteArray) (at_ code : Int) : Value := .agg #[.string t, .int .i64 at_, .int .i64 code]

def unsealOf (s : ByteArray) : Value :=
  if 8000 < s.size then textOut ⟨#[]⟩ 0 2
  else if s.size < 4 then textOut ⟨#[]⟩ 0 4
  else if (sealOf (s.extract 0 (s.size - 4))).toList == s.toList then textOut (s.extract 0 (s.size - 4)) 0 0
  else textOut ⟨#[]⟩ 0 5

set_option maxHeartbeats 400000 in
theorem unseal_impl (s : ByteArray) (w : World) (hs : s.size ≤ maxLen) :
    Calls Try.prog 15 #[.string s] w fun e w' => e = .returned (unsealOf s) ∧ Below w.heap.size w w' := by
  unfold maxLen at hs
  by_cases h1 : 8000 < s.size
  · have HU : Hid (unsealOf s = textOut ⟨#[]⟩ 0 2) := if_pos h1
    go_enter Try.func15, Try.ntmps15
    go_wp2_with fail
    exact bodyPost_ret (v := textOut ⟨#[]⟩ 0 2) (by simp [results, Try.results15, go_sem, textOut]) rfl ⟨by rw [HU.out], (Below.refl _ _).alloc (Nat.le_refl _) _⟩
  by_cases h2 : s.size < 4
  · have HU : Hid (unsealOf s = textOut ⟨#[]⟩ 0 4) := by show unsealOf s = _; rw [unsealOf, if_neg h1, if_pos h2]
    go_enter Try.func15, Try.ntmps15
    go_wp2_with fail
    exact bodyPost_ret (v := textOut ⟨#[]⟩ 0 4) (by simp [results, Try.results15, go_sem, textOut]) rfl ⟨by rw [HU.out], (Below.refl _ _).alloc (Nat.le_refl _) _⟩
  cases h3 : (sealOf (s.extract 0 (s.size - 4))).toList == s.toList
  · have HU : Hid (unsealOf s = textOut ⟨#[]⟩ 0 5) := by show unsealOf s = _; rw [unsealOf, if_neg h1, if_neg h2, if_neg (by simp [h3])]
    go_enter Try.func15, Try.ntmps15
    go_wp2_with (first | (go_at_call 12; refine (seal_impl _ _).mono ?_; rintro e w1 ⟨rfl, hb1⟩; obtain ⟨hc1, hf1⟩ := bcell hb1; have hz1 : w.heap.size < w1.heap.size := by have := hb1.size; simp at this; omega))
    exact bodyPost_ret (v := textOut ⟨#[]⟩ 0 5) (by simp [results, Try.results15, go_sem, textOut, hc1]) rfl ⟨by rw [HU.out], (((((Below.refl _ _).alloc (Nat.le_refl _) _).trans (hb1.mono (by simp))).setCell (by simp) _).setCell (by simp) _).setCell (by simp) _⟩
  · have HU : Hid (unsealOf s = textOut (s.extract 0 (s.size - 4)) 0 0) := by show unsealOf s = _; rw [unsealOf, if_neg h1, if_neg h2, if_pos h3]
    go_enter Try.func15, Try.ntmps15
    go_wp2_with (first | (go_at_call 12; refine (seal_impl _ _).mono ?_; rintro e w1 ⟨rfl, hb1⟩))
    refine (join_one _ w1 (by simp; omega)).mono ?_
    rintro e w2 ⟨rfl, hb2⟩
    have hb3 := hb1.trans (hb2.mono hb1.size)
    obtain ⟨hc1, hf1⟩ := bcell hb3
    have hz1 : w.heap.size < w2.heap.size := by have := hb3.size; simp at this; omega
    go_wp2
    exact bodyPost_ret (v := textOut (s.extract 0 (s.size - 4)) 0 0) (by simp [results, Try.results15, go_sem, textOut, hc1]) rfl ⟨by rw [HU.out], (((((Below.refl _ _).alloc (Nat.le_refl _) _).trans (hb3.mono (by simp))).setCell (by simp) _).setCell (by simp) _).setCell (by simp) _⟩

theorem bytes_ext {a b : ByteArray} (h : a.data.toList = b.data.toList) : a = b := ByteArray.ext (Array.ext' h)
/-- The last four bytes are the seal's just if the whole text is its beginning's seal. -/
theorem seal_tail (s : ByteArray) (h1 : s.size ≤ 8000) :
    ((fourOf (crcOf 0 (s.extract 0 (s.size - 4)))).toList == (s.extract (s.size - 4) s.size).toList) = ((sealOf (s.extract 0 (s.size - 4))).toList == s.toList) := by
  have hb : (s.extract 0 (s.size - 4)).size ≤ 7996 := by simp; omega
  rw [sealOf, if_pos hb, Lib.toList_data, Lib.toList_data, Lib.toList_data, Lib.toList_data, Joins.data_append]
  have hd : s.data.toList = (s.extract 0 (s.size - 4)).data.toList ++ (s.extract (s.size - 4) s.size).data.toList := by
    rw [Lib.extract_from_zero, Lib.extract_to_end, List.take_append_drop]
  rw [Bool.eq_iff_iff, beq_iff_eq, beq_iff_eq]
  constructor
  · intro h; conv => rhs; rw [hd, ← h]
  · intro h; rw [hd] at h; exact List.append_cancel_left h

set_option maxHeartbeats 400000 in
theorem unseal_spec (s : ByteArray) (w : World) (hs : s.size ≤ maxLen) :
    Calls Try.prog 27 #[.string s] w fun e w' => e = .returned (unsealOf s) ∧ Below w.heap.size w w' := by
  unfold maxLen at hs
  by_cases h1 : 8000 < s.size
  · have HU : Hid (unsealOf s = textOut ⟨#[]⟩ 0 2) := if_pos h1
    go_enter Try.func27, Try.ntmps27
    go_wp2_with fail
    exact bodyPost_ret (v := textOut ⟨#[]⟩ 0 2) (by simp [results, Try.results27, go_sem, textOut]) rfl ⟨by rw [HU.out], (Below.refl _ _).alloc (Nat.le_refl _) _⟩
  by_cases h2 : s.size < 4
  · have HU : Hid (unsealOf s = textOut ⟨#[]⟩ 0 4) := by show unsealOf s = _; rw [unsealOf, if_neg h1, if_pos h2]
    go_enter Try.func27, Try.ntmps27
    go_wp2_with fail
    exact bodyPost_ret (v := textOut ⟨#[]⟩ 0 4) (by simp [results, Try.results27, go_sem, textOut]) rfl ⟨by rw [HU.out], (Below.refl _ _).alloc (Nat.le_refl _) _⟩
  have hst := seal_tail s (by omega)
  cases h3 : (sealOf (s.extract 0 (s.size - 4))).toList == s.toList
  · have HU : Hid (unsealOf s = textOut ⟨#[]⟩ 0 5) := by show unsealOf s = _; rw [unsealOf, if_neg h1, if_neg h2, if_neg (by simp [h3])]
    rw [h3] at hst
    clear h3
    have hc := fun w => l01Crc_spec 0 (s.extract 0 (s.size - 4)) w (by omega) (by omega) (by simp; omega)
    have hr := crcOf_range (s.extract 0 (s.size - 4))
    have hr0 := hr.1
    have hr1 := hr.2
    clear hr
    go_enter Try.func27, Try.ntmps27
    go_wp2_with fail
    have e1 : IntKind.i64.wrap ((s.size : Int) - 4) = (s.size : Int) - 4 := IntWalk.i64_in _ (by omega)
    have e2 : (0 : Int) ≤ (s.size : Int) - 4 := by omega
    have e3 : ((s.size : Int) - 4).toNat = s.size - 4 := by omega
    have e4 : (s.size : Int) - 4 ≤ (s.size : Int) := by omega
    have e5 : s.size - 4 ≤ s.size := by omega
    go_region_with (first | (go_at_call 36; refine (hc _).mono ?_; rintro e w1 ⟨rfl, rfl⟩) | (go_at_call 35; refine (l01Four_any _ _ hr0 hr1).mono ?_; rintro e w1 ⟨rfl, hb1⟩; have hc1 : ∀ o, w1.cell? ⟨w.heap.size, o, none⟩ = (w.alloc (.cells #[.string ⟨#[]⟩, .int .i64 0, .int .i64 0] 27)).cell? ⟨w.heap.size, o, none⟩ := (fun o => (bcell hb1).1 w.heap.size o (by simp)); have hf1 : ∀ o, w1.frozen? ⟨w.heap.size, o, none⟩ = (w.alloc (.cells #[.string ⟨#[]⟩, .int .i64 0, .int .i64 0] 27)).frozen? ⟨w.heap.size, o, none⟩ := (fun o => (bcell hb1).2 w.heap.size o (by simp)); have hz1 : w.heap.size < w1.heap.size := by have := hb1.size; simp at this; omega))
    clear e1 e2 e3 e4 e5
    have hbw : Below w.heap.size w w1 := (((Below.refl w.heap.size w).alloc (Nat.le_refl _) _).drew).trans (hb1.mono (by simp))
    go_wp2
    exact bodyPost_ret (v := textOut ⟨#[]⟩ 0 5) (by simp [results, Try.results27, go_sem, textOut, hc1]) rfl ⟨by rw [HU.out], ((hbw.setCell (by simp) _).setCell (by simp) _).setCell (by simp) _⟩
  · have HU : Hid (unsealOf s = textOut (s.extract 0 (s.size - 4)) 0 0) := by show unsealOf s = _; rw [unsealOf, if_neg h1, if_neg h2, if_pos h3]
    rw [h3] at hst
    clear h3
    have hc := fun w => l01Crc_spec 0 (s.extract 0 (s.size - 4)) w (by omega) (by omega) (by simp; omega)
    have hr := crcOf_range (s.extract 0 (s.size - 4))
    have hr0 := hr.1
    have hr1 := hr.2
    clear hr
    go_enter Try.func27, Try.ntmps27
    go_wp2_with fail
    have e1 : IntKind.i64.wrap ((s.size : Int) - 4) = (s.size : Int) - 4 := IntWalk.i64_in _ (by omega)
    have e2 : (0 : Int) ≤ (s.size : Int) - 4 := by omega
    have e3 : ((s.size : Int) - 4).toNat = s.size - 4 := by omega
    have e4 : (s.size : Int) - 4 ≤ (s.size : Int) := by omega
    have e5 : s.size - 4 ≤ s.size := by omega
    go_region_with (first | (go_at_call 36; refine (hc _).mono ?_; rintro e w1 ⟨rfl, rfl⟩) | (go_at_call 35; refine (l01Four_any _ _ hr0 hr1).mono ?_; rintro e w1 ⟨rfl, hb1⟩; have hc1 : ∀ o, w1.cell? ⟨w.heap.size, o, none⟩ = (w.alloc (.cells #[.string ⟨#[]⟩, .int .i64 0, .int .i64 0] 27)).cell? ⟨w.heap.size, o, none⟩ := (fun o => (bcell hb1).1 w.heap.size o (by simp)); have hf1 : ∀ o, w1.frozen? ⟨w.heap.size, o, none⟩ = (w.alloc (.cells #[.string ⟨#[]⟩, .int .i64 0, .int .i64 0] 27)).frozen? ⟨w.heap.size, o, none⟩ := (fun o => (bcell hb1).2 w.heap.size o (by simp)); have hz1 : w.heap.size < w1.heap.size := by have := hb1.size; simp at this; omega))
    clear e1 e2 e3 e4 e5
    have hbw : Below w.heap.size w w1 := (((Below.refl w.heap.size w).alloc (Nat.le_refl _) _).drew).trans (hb1.mono (by simp))
    go_wp2
    exact bodyPost_ret (v := textOut (s.extract 0 (s.size - 4)) 0 0) (by simp [results, Try.results27, go_sem, textOut, hc1]) rfl ⟨by rw [HU.out], ((hbw.setCell (by simp) _).setCell (by simp) _).setCell (by simp) _⟩

theorem unsealOf_form (s : ByteArray) : ∃ t a c, unsealOf s = .agg #[.string t, .int .i64 a, .int .i64 c] := by
  unfold unsealOf
  split
  · exact ⟨_, _, _, rfl⟩
  split
  · exact ⟨_, _, _, rfl⟩
  split <;> exact ⟨_, _, _, rfl⟩

set_option maxHeartbeats 400000 in
theorem eqTextOut_same (t : ByteArray) (a c : Int) (w : World) :
    Calls Try.prog 28 #[.agg #[.string t, .int .i64 a, .int .i64 c], .agg #[.string t, .int .i64 a, .int .i64 c]] w fun e w' => e = .returned (.bool true) ∧ Below w.heap.size w w' := by
  go_enter Try.func28, Try.ntmps28
  go_wp2
  go_ret
  exact ⟨rfl, ((Below.refl _ _).alloc (Nat.le_refl _) _).alloc (by simp) _⟩

end Go.Proofs.Ytdpmneoodolgdaa
