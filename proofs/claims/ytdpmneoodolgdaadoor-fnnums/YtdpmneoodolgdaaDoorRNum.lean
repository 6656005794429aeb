/- readNum: a goto reader; what it hands back is rd's answer, a fault where its code is not 0. -/
import Derived.Test.YtdpmneoodolgdaaDoorGNum
import Derived.RegionTactic
import Derived.Deep.QuietTactic
import Derived.BigQuiet
namespace Go.Proofs.YtdpmneoodolgdaaDoor
open Go.RowKit

def errV (c : Int) : Value := if c = 0 then .nilIface else .iface 56 (.agg #[.int .i64 c])
def numRes (r : Int × Int × Int) : Value := .tuple #[.int .i64 r.1, .int .i64 r.2.1, errV r.2.2]

theorem jm_wrong {s : ByteArray} {w : World} {r : Int × Int × Int} {c : Int} {x1 x7 x8 x9 : Value} {a : Act} (hc : c ≠ 0) (hf : Fr (.string s) x1 x7 x8 x9 (.pointer (some ⟨w.heap.size, 0, none⟩)) a) (hr : (0, 0, c) = r) :
    J3 s w r 0 a (w.alloc (.cells #[.int .i64 c] 56)) := .inr (.inr ⟨rfl, c, rfl, hc, x1, x7, x8, x9, hf, hr⟩)
theorem jm_last {s : ByteArray} {w : World} {r : Int × Int × Int} {p u m b : Nat} {a : Act} (hf : Fr (.string s) (.int .i64 p) (.int .u64 u) (.int .u64 m) (.int .u8 b) (.pointer (some ⟨w.heap.size, 0, none⟩)) a)
    (hm : m ≤ 63) (hb : b < 256) (hu : u < 2 ^ 64) (hr : (if b = 0 ∧ 0 < m then (0, 0, 3) else (unfoldZ u, (p : Int), 0)) = r) :
    J3 s w r 2 a (w.alloc (.cells #[.int .i64 0] 56)) := .inr (.inl ⟨rfl, rfl, p, u, m, b, hf, hm, hb, hu, hr⟩)
theorem jm_more {s : ByteArray} {w : World} {r : Int × Int × Int} {p k u m : Nat} {x9 : Value} {a : Act} (hf : Fr (.string s) (.int .i64 p) (.int .u64 u) (.int .u64 m) x9 (.pointer (some ⟨w.heap.size, 0, none⟩)) a)
    (hm : m ≤ 63) (hz : s.size ≤ 8000) (hk : m = 7 * k) (hu : u < 2 ^ (7 * k)) (hr : rd s (10 - k) p k u = r) :
    J3 s w r 1 a (w.alloc (.cells #[.int .i64 0] 56)) := .inl ⟨rfl, rfl, p, k, u, m, x9, hf, hm, hz, hk, hu, hr⟩

theorem rd_short {s : ByteArray} {p k u : Nat} (hk : k ≤ 9) (h : s.size ≤ p) : (0, 0, 4) = rd s (10 - k) p k u := by rw [rd_eq s p k u hk, if_pos h]
theorem rd_big {s : ByteArray} {p k u b : Nat} (hk : k = 9) (h : p < s.size) (hb : byteN s p = b) (h1 : 1 < b) : (0, 0, 3) = rd s (10 - k) p k u := by
  rw [rd_eq s p k u (by omega), if_neg (by omega), hb, if_pos ⟨hk, h1⟩]
theorem rd_last {s : ByteArray} {p k u m b : Nat} (hk : k ≤ 9) (hm : m = 7 * k) (h : p < s.size) (hb : byteN s p = b) (h9 : ¬ (k = 9 ∧ 1 < b)) (h128 : b < 128) :
    (if b = 0 ∧ 0 < m then (0, 0, 3) else (unfoldZ (u + b % 128 * 2 ^ m), ((p + 1 : Nat) : Int), 0)) = rd s (10 - k) p k u := by
  subst hm
  have e := rd_eq s p k u hk
  rw [if_neg (by omega), hb, if_neg h9, if_pos h128] at e
  rw [e, Nat.mod_eq_of_lt h128]
  by_cases h0 : b = 0 ∧ 0 < k
  · rw [if_pos h0, if_pos ⟨h0.1, by omega⟩]
  · rw [if_neg h0, if_neg (fun h => h0 ⟨h.1, by omega⟩)]; simp
theorem rd_more {s : ByteArray} {p k u m b : Nat} (hk : k ≤ 9) (hm : m = 7 * k) (h : p < s.size) (hb : byteN s p = b) (h9 : k ≠ 9) (h128 : ¬ b < 128) :
    rd s (10 - (k + 1)) (p + 1) (k + 1) (u + b % 128 * 2 ^ m) = rd s (10 - k) p k u := by
  subst hm
  rw [rd_eq s p k u hk, if_neg (by omega), hb, if_neg (by omega), if_neg h128]

set_option maxRecDepth 100000 in
set_option maxHeartbeats 2000000 in
theorem readNum_any (s : ByteArray) (q : Int) (w : World) (hs : s.size ≤ maxLen) (r : Int × Int × Int)
    (hr : (8000 < s.size ∧ r = (0, 0, 2)) ∨ (s.size ≤ 8000 ∧ q < 0 ∧ r = (0, 0, 1)) ∨ (s.size ≤ 8000 ∧ ∃ p : Nat, q = p ∧ rd s 10 p 0 0 = r)) :
    Calls Tryd.prog 22 #[.string s, .int .i64 q] w fun e w' => e = .returned (numRes r) ∧ Below w.heap.size w w' := by
  have HR := Lib.hid hr
  clear hr
  unfold maxLen at hs
  go_enter Tryd.func22, Tryd.ntmps22
  go_wp2
  refine wp_scope_labels (J3 s w r) mu ?_ ?_
  · rcases HR.out with ⟨hz, hrr⟩ | ⟨hz, hq, hrr⟩ | ⟨hz, p, rfl, hrr⟩
    · have HRR := Lib.hid hrr
      clear hrr HR
      go_wp2
      go_step3
      exact jm_wrong (c := 2) (by decide) ⟨_, _, _, _, _, _, _, _, _, _, _, _, _, _, _, _, _, _, _, _, _, _, _, _, _, _, _, _, _, _, _, _, _, _, _, _, _, _, _, _, _, _, _, _, _, _, _, rfl⟩ HRR.out.symm
    · have HRR := Lib.hid hrr
      clear hrr HR
      go_wp2
      go_step3
      exact jm_wrong (c := 1) (by decide) ⟨_, _, _, _, _, _, _, _, _, _, _, _, _, _, _, _, _, _, _, _, _, _, _, _, _, _, _, _, _, _, _, _, _, _, _, _, _, _, _, _, _, _, _, _, _, _, _, rfl⟩ HRR.out.symm
    · have HRR := Lib.hid hrr
      clear hrr HR
      by_cases hlt : p < s.size
      · have hbn := byteN_eq s p hlt
        have hbl := byteN_lt s p
        rw [hbn] at hbl
        have HB := Lib.hid hbn
        clear hbn
        have HO : Hid (bits BinOp.or IntKind.u64 0 (IntKind.u64.wrap (IntKind.u64.wrap (bits BinOp.andNot IntKind.u8 (s[p].toNat : Int) 128))) = ((0 + s[p].toNat % 128 * 2 ^ 0 : Nat) : Int)) := by
          show _ = _
          have h := or_step 0 s[p].toNat 0 hbl (by decide) (by omega)
          rw [← h]; simp
        by_cases h128 : (s[p].toNat : Int) < 128
        · go_wp2
          go_step3
          go_wp2
          go_step3
          rw [HO.out, show ((p : Int) + 1) = ((p + 1 : Nat) : Int) from by omega]
          refine jm_last (p := p + 1) (m := 0) ⟨_, _, _, _, _, _, _, _, _, _, _, _, _, _, _, _, _, _, _, _, _, _, _, _, _, _, _, _, _, _, _, _, _, _, _, _, _, _, _, _, _, _, _, _, _, _, _, rfl⟩ (by omega) hbl (step_lt (m := 0) (by decide) (by omega)) ?_
          rw [← HRR.out]
          exact rd_last (k := 0) (by omega) rfl hlt HB.out (by omega) (by omega)
        · go_wp2
          go_step3
          go_wp2
          go_step3
          rw [HO.out, show ((p : Int) + 1) = ((p + 1 : Nat) : Int) from by omega]
          refine jm_more (k := 1) (p := p + 1) (m := 7) ⟨_, _, _, _, _, _, _, _, _, _, _, _, _, _, _, _, _, _, _, _, _, _, _, _, _, _, _, _, _, _, _, _, _, _, _, _, _, _, _, _, _, _, _, _, _, _, _, rfl⟩ (by omega) hz rfl (step_next (k := 0) (by decide)) ?_
          rw [← HRR.out]
          exact rd_more (k := 0) (by omega) rfl hlt HB.out (by omega) (by omega)
      · go_wp2
        go_step3
        go_wp2
        go_step3
        refine jm_wrong (c := 4) (by decide) ⟨_, _, _, _, _, _, _, _, _, _, _, _, _, _, _, _, _, _, _, _, _, _, _, _, _, _, _, _, _, _, _, _, _, _, _, _, _, _, _, _, _, _, _, _, _, _, _, rfl⟩ ?_
        rw [← HRR.out]; exact rd_short (k := 0) (by omega) (by omega)
  · clear HR
    rintro l a w1 (⟨rfl, rfl, p, k, u, m, x9, ⟨u11, u12, u13, u14, u15, u16, u17, u18, u19, u20, u21, u22, u23, u24, u25, u26, u27, u28, u29, u30, u31, u32, u33, u34, u35, u36, u37, u38, u39, u40, u41, u42, u43, u44, u45, u46, u47, u48, u49, u50, u51, u52, u53, u54, u55, u56, u57, rfl⟩, hm, hz, H⟩ | ⟨rfl, rfl, p, u, m, b, ⟨u11, u12, u13, u14, u15, u16, u17, u18, u19, u20, u21, u22, u23, u24, u25, u26, u27, u28, u29, u30, u31, u32, u33, u34, u35, u36, u37, u38, u39, u40, u41, u42, u43, u44, u45, u46, u47, u48, u49, u50, u51, u52, u53, u54, u55, u56, u57, rfl⟩, hm, hb, H⟩ | ⟨rfl, c, rfl, HC, x1, x7, x8, x9, ⟨u11, u12, u13, u14, u15, u16, u17, u18, u19, u20, u21, u22, u23, u24, u25, u26, u27, u28, u29, u30, u31, u32, u33, u34, u35, u36, u37, u38, u39, u40, u41, u42, u43, u44, u45, u46, u47, u48, u49, u50, u51, u52, u53, u54, u55, u56, u57, rfl⟩, H⟩)
    · refine ⟨_, rfl, ?_⟩
      have hk9 : k ≤ 9 := by have := H.out.1; omega
      by_cases hlt : p < s.size
      · have hbn := byteN_eq s p hlt
        have hbl := byteN_lt s p
        rw [hbn] at hbl
        have HB := Lib.hid hbn
        clear hbn
        cases hm63 : ((m : Int) == 63)
        · have hmn : m ≠ 63 := by rintro rfl; simp at hm63
          have HO := Lib.hid (or_step u s[p].toNat m hbl (by rw [H.out.1]; exact H.out.2.1) (by have := H.out.1; omega))
          by_cases h128 : (s[p].toNat : Int) < 128
          · go_wp2
            go_step3
            rw [HO.out, show ((p : Int) + 1) = ((p + 1 : Nat) : Int) from by omega]
            refine ⟨jm_last (p := p + 1) ⟨_, _, _, _, _, _, _, _, _, _, _, _, _, _, _, _, _, _, _, _, _, _, _, _, _, _, _, _, _, _, _, _, _, _, _, _, _, _, _, _, _, _, _, _, _, _, _, rfl⟩ (by omega) hbl (step_lt (by rw [H.out.1]; exact H.out.2.1) (by have := H.out.1; omega)) ?_, by simp [mu, shiftOf]; omega⟩
            rw [← H.out.2.2]
            exact rd_last hk9 H.out.1 hlt HB.out (by have := H.out.1; omega) (by omega)
          · go_wp2
            go_step3
            rw [HO.out, show ((p : Int) + 1) = ((p + 1 : Nat) : Int) from by omega, show ((m : Int) + 7) = ((m + 7 : Nat) : Int) from by omega]
            refine ⟨jm_more (k := k + 1) (p := p + 1) (m := m + 7) ⟨_, _, _, _, _, _, _, _, _, _, _, _, _, _, _, _, _, _, _, _, _, _, _, _, _, _, _, _, _, _, _, _, _, _, _, _, _, _, _, _, _, _, _, _, _, _, _, rfl⟩ (by have := H.out.1; omega) hz (by have := H.out.1; omega) (by have := H.out.1; subst this; exact step_next H.out.2.1) ?_, by simp [mu, shiftOf]; omega⟩
            rw [← H.out.2.2]
            exact rd_more hk9 H.out.1 hlt HB.out (by have := H.out.1; omega) (by omega)
        · have hmn : m = 63 := by have : (m : Int) = 63 := by simpa using hm63
                                  omega
          have HM := Lib.hid hmn
          clear hmn
          by_cases h1 : 1 < (s[p].toNat : Int)
          · go_wp2
            go_step3
            refine ⟨jm_wrong (c := 3) (by decide) ⟨_, _, _, _, _, _, _, _, _, _, _, _, _, _, _, _, _, _, _, _, _, _, _, _, _, _, _, _, _, _, _, _, _, _, _, _, _, _, _, _, _, _, _, _, _, _, _, rfl⟩ ?_, by simp [mu, shiftOf]; omega⟩
            rw [← H.out.2.2]
            exact rd_big (by have := H.out.1; have := HM.out; omega) hlt HB.out (by omega)
          · have hd1 : decide (1 < (s[p].toNat : Int)) = false := by simpa using h1
            have HO := Lib.hid (or_step u s[p].toNat m hbl (by rw [H.out.1]; exact H.out.2.1) (by omega))
            go_wp2
            go_step3
            rw [HO.out, show ((p : Int) + 1) = ((p + 1 : Nat) : Int) from by omega]
            refine ⟨jm_last (p := p + 1) ⟨_, _, _, _, _, _, _, _, _, _, _, _, _, _, _, _, _, _, _, _, _, _, _, _, _, _, _, _, _, _, _, _, _, _, _, _, _, _, _, _, _, _, _, _, _, _, _, rfl⟩ (by omega) hbl (step_lt (by rw [H.out.1]; exact H.out.2.1) (by omega)) ?_, by simp [mu, shiftOf]; omega⟩
            rw [← H.out.2.2]
            exact rd_last hk9 H.out.1 hlt HB.out (by omega) (by omega)
      · go_wp2
        go_step3
        refine ⟨jm_wrong (c := 4) (by decide) ⟨_, _, _, _, _, _, _, _, _, _, _, _, _, _, _, _, _, _, _, _, _, _, _, _, _, _, _, _, _, _, _, _, _, _, _, _, _, _, _, _, _, _, _, _, _, _, _, rfl⟩ ?_, by simp [mu, shiftOf]; omega⟩
        rw [← H.out.2.2]; exact rd_short hk9 (by omega)
    · refine ⟨_, rfl, ?_⟩
      cases hb0 : ((b : Int) == 0)
      · have hbn : b ≠ 0 := by rintro rfl; simp at hb0
        have HR2 : Hid ((unfoldZ u, (p : Int), (0 : Int)) = r) := by
          show _ = r
          rw [← H.out.2, if_neg (by omega)]
        have HU := Lib.hid H.out.1
        clear hbn H
        go_wp2_with (go_at_call 30; refine (unfold_any u _ HU.out).mono ?_; rintro e w' ⟨rfl, rfl⟩)
        simp only [jumps]
        go_ret3
        exact ⟨by rw [← HR2.out]; simp [numRes, errV], (Below.refl _ _).alloc (Nat.le_refl _) _⟩
      · have hbn : b = 0 := by have : (b : Int) = 0 := by simpa using hb0
                               omega
        by_cases hm0 : 0 < (m : Int)
        · have HR2 : Hid (((0 : Int), (0 : Int), (3 : Int)) = r) := by
            show _ = r
            rw [← H.out.2, if_pos (by omega)]
          clear hbn H
          go_wp2
          go_step3
          exact ⟨jm_wrong (c := 3) (by decide) ⟨_, _, _, _, _, _, _, _, _, _, _, _, _, _, _, _, _, _, _, _, _, _, _, _, _, _, _, _, _, _, _, _, _, _, _, _, _, _, _, _, _, _, _, _, _, _, _, rfl⟩ HR2.out, by simp [mu]⟩
        · have hd0 : decide (0 < (m : Int)) = false := by simpa using hm0
          have HR2 : Hid ((unfoldZ u, (p : Int), (0 : Int)) = r) := by
            show _ = r
            rw [← H.out.2, if_neg (by omega)]
          have HU := Lib.hid H.out.1
          clear hbn H
          go_wp2_with (go_at_call 30; refine (unfold_any u _ HU.out).mono ?_; rintro e w' ⟨rfl, rfl⟩)
          simp only [jumps]
          go_ret3
          exact ⟨by rw [← HR2.out]; simp [numRes, errV], (Below.refl _ _).alloc (Nat.le_refl _) _⟩
    · refine ⟨_, rfl, ?_⟩
      go_wp2
      go_quiet (fail)
      go_wp2
      simp only [jumps]
      go_ret3
      exact ⟨by rw [← H.out]; simp [numRes, errV, HC.out], by exact (below_drewN ((Below.refl _ _).alloc (Nat.le_refl _) _) _)⟩
end Go.Proofs.YtdpmneoodolgdaaDoor
