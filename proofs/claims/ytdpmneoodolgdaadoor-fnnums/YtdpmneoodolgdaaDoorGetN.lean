/- GetNum of the program and of its model. -/
import Derived.Test.YtdpmneoodolgdaaDoorRNum
namespace Go.Proofs.YtdpmneoodolgdaaDoor
open Go.RowKit

def rdOf (s : ByteArray) (q : Int) : Int × Int × Int := if 8000 < s.size then (0, 0, 2) else if q < 0 then (0, 0, 1) else rd s 10 q.toNat 0 0
theorem rdOf_cases (s : ByteArray) (q : Int) : (8000 < s.size ∧ rdOf s q = (0, 0, 2)) ∨ (s.size ≤ 8000 ∧ q < 0 ∧ rdOf s q = (0, 0, 1)) ∨ (s.size ≤ 8000 ∧ ∃ p : Nat, q = p ∧ rd s 10 p 0 0 = rdOf s q) := by
  unfold rdOf
  by_cases h : 8000 < s.size
  · exact .inl ⟨h, if_pos h⟩
  · rw [if_neg h]
    by_cases hq : q < 0
    · exact .inr (.inl ⟨by omega, hq, if_pos hq⟩)
    · rw [if_neg hq]
      exact .inr (.inr ⟨by omega, q.toNat, by omega, rfl⟩)
theorem readNum_all (s : ByteArray) (q : Int) (w : World) (hs : s.size ≤ maxLen) :
    Calls Tryd.prog 22 #[.string s, .int .i64 q] w fun e w' => e = .returned (numRes (rdOf s q)) ∧ Below w.heap.size w w' :=
  readNum_any s q w hs _ (rdOf_cases s q)

theorem faultCode_any (c : Int) (w : World) (hg : HasErr w) :
    Calls Tryd.prog 23 #[errV c] w fun e w' => e = .returned (.int .i64 c) ∧ Below w.heap.size w w' := by
  by_cases h : c = 0
  · subst h
    exact faultCode_nil w
  · rw [errV, if_neg h]
    exact faultCode_hit c w hg

def numOut (r : Int × Int × Int) : Value := .agg #[.int .i64 r.1, .int .i64 r.2.1, .int .i64 r.2.2]

theorem bcell {W w1 : World} {B : Nat} (hb : Below B W w1) : (∀ b o, b < B → w1.cell? ⟨b, o, none⟩ = W.cell? ⟨b, o, none⟩) ∧ (∀ b o, b < B → w1.frozen? ⟨b, o, none⟩ = W.frozen? ⟨b, o, none⟩) :=
  ⟨fun b o h => hb.cell (p := ⟨b, o, none⟩) h, fun b o h => hb.frozen (p := ⟨b, o, none⟩) h⟩

set_option maxHeartbeats 400000 in
theorem getNum_impl (s : ByteArray) (q : Int) (w : World) (hs : s.size ≤ maxLen) (hg : HasErr w) :
    Calls Tryd.prog 9 #[.string s, .int .i64 q] w fun e w' => e = .returned (numOut (rdOf s q)) ∧ Below w.heap.size w w' := by
  have hg1 := hg.alloc (.cells #[.int .i64 0, .int .i64 0, .int .i64 0] 26)
  have hr := readNum_all s q (w.alloc (.cells #[.int .i64 0, .int .i64 0, .int .i64 0] 26)) hs
  generalize rdOf s q = r at *
  obtain ⟨n, at_, c⟩ := r
  unfold numRes at hr
  have HR := Lib.hid hr
  have HG := Lib.hid hg1
  clear hs hg hg1 hr
  go_enter Tryd.func9, Tryd.ntmps9
  go_wp2_with (go_at_call 22; refine HR.out.mono ?_; rintro e w1 ⟨rfl, hb1⟩)
  refine (faultCode_any c w1 (HG.out.below hb1)).mono ?_
  rintro e w2 ⟨rfl, hb2⟩
  have hb3 := hb1.trans (hb2.mono hb1.size)
  have hc1 := fun o => (bcell hb3).1 w.heap.size o (by simp)
  have hf1 := fun o => (bcell hb3).2 w.heap.size o (by simp)
  have hz1 : w.heap.size < w2.heap.size := by have := hb3.size; simp at this; omega
  go_wp2
  exact bodyPost_ret (v := numOut (n, at_, c)) (by simp [results, Tryd.results9, go_sem, numOut, hc1]) rfl ⟨rfl, (((((Below.refl _ _).alloc (Nat.le_refl _) _).trans (hb3.mono (by simp))).setCell (by simp) _).setCell (by simp) _).setCell (by simp) _⟩

theorem add_step (u b m : Nat) (hu : u < 2 ^ m) (hm : m ≤ 56 ∨ (m ≤ 63 ∧ b ≤ 1)) :
    IntKind.u64.wrap ((u : Int) + IntKind.u64.wrap ((b : Int) % 128 * 2 ^ m)) = ((u + b % 128 * 2 ^ m : Nat) : Int) := by
  have h := step_lt (b := b) hu hm
  have e : ((b : Int) % 128 * 2 ^ m) = ((b % 128 * 2 ^ m : Nat) : Int) := by simp
  rw [IntKind.wrap_u64, IntKind.wrap_u64, e]
  omega

theorem unf_odd (v : Nat) (h : v < 2 ^ 64) (ho : ((v : Int) % 2 == 1) = true) : wrap64 (wrap64 (-wrap64 (IntKind.u64.wrap ((v : Int) / 2))) - 1) = unfoldZ v := by
  have h' : v < 18446744073709551616 := by simpa using h
  have ho' : (v : Int) % 2 = 1 := by simpa using ho
  rw [unfoldZ, if_pos (by omega), IntKind.wrap_u64]
  unfold wrap64
  omega
theorem unf_even (v : Nat) (h : v < 2 ^ 64) (ho : ((v : Int) % 2 == 1) = false) : wrap64 (IntKind.u64.wrap ((v : Int) / 2)) = unfoldZ v := by
  have h' : v < 18446744073709551616 := by simpa using h
  have ho' : ¬ (v : Int) % 2 = 1 := by simpa using ho
  rw [unfoldZ, if_neg (by omega), IntKind.wrap_u64]
  unfold wrap64
  omega

set_option maxRecDepth 100000 in
set_option maxHeartbeats 1000000 in
theorem getNum_spec (s : ByteArray) (q : Int) (w : World) (hs : s.size ≤ maxLen) (hq : q ≤ 9223372036854775807) :
    Calls Tryd.prog 14 #[.string s, .int .i64 q] w fun e w' => e = .returned (numOut (rdOf s q)) ∧ Below w.heap.size w w' := by
  unfold maxLen at hs
  rcases rdOf_cases s q with ⟨hz, hr⟩ | ⟨hz, hq, hr⟩ | ⟨hz, p, rfl, hr⟩
  · have HR := Lib.hid hr
    clear hr
    go_enter Tryd.func14, Tryd.ntmps14
    go_wp2_with fail
    exact bodyPost_ret (v := numOut (0, 0, 2)) (by simp [results, Tryd.results14, go_sem, numOut]) rfl ⟨by rw [HR.out], (Below.refl _ _).alloc (Nat.le_refl _) _⟩
  · have HR := Lib.hid hr
    clear hr
    go_enter Tryd.func14, Tryd.ntmps14
    go_wp2_with fail
    exact bodyPost_ret (v := numOut (0, 0, 1)) (by simp [results, Tryd.results14, go_sem, numOut]) rfl ⟨by rw [HR.out], (Below.refl _ _).alloc (Nat.le_refl _) _⟩
  · generalize rdOf s p = r at *
    have HR := Lib.hid hr
    clear hr
    go_enter Tryd.func14, Tryd.ntmps14
    go_wp2
    go_loop [5, 6, 7] (fun x i _ => ∃ k u : Nat, i = .int .i64 k ∧ x = .int .u64 u ∧ k ≤ 9 ∧ Hid (u < 2 ^ (7 * k) ∧ rd s (10 - k) (p + k) k u = r)) (fun _ i _ => 10 - (intOf i).toNat)
    case atStart => exact ⟨0, 0, rfl, rfl, by omega, by decide, HR.out⟩
    case round =>
      obtain ⟨k, u, rfl, rfl, hk, H⟩ := hrel
      by_cases hlt : p + k < s.size
      · have hbn := byteN_eq s (p + k) hlt
        have hbl := byteN_lt s (p + k)
        rw [hbn] at hbl
        have HB := Lib.hid hbn
        clear hbn
        cases hk9 : ((k : Int) == 9)
        · have hk9n : k ≠ 9 := by rintro rfl; simp at hk9
          have HV := Lib.hid (add_step u s[p + k].toNat (7 * k) H.out.1 (by omega))
          by_cases h128 : (s[p + k].toNat : Int) < 128
          · have HQ : Hid ((if s[p + k].toNat = 0 ∧ 0 < 7 * k then (0, 0, 3) else (unfoldZ (u + s[p + k].toNat % 128 * 2 ^ (7 * k)), ((p + k + 1 : Nat) : Int), 0)) = r) := by
              show _ = r
              rw [← H.out.2]; exact rd_last hk rfl hlt HB.out (by omega) (by omega)
            cases hb0 : ((s[p + k].toNat : Int) == 0)
            · have hbn : s[p + k].toNat ≠ 0 := by intro h; rw [h] at hb0; simp at hb0
              have hv := HV.out
              have HL := Lib.hid (step_lt (b := s[p + k].toNat) H.out.1 (by omega))
              have HQ2 : Hid ((unfoldZ (u + s[p + k].toNat % 128 * 2 ^ (7 * k)), (p : Int) + (k : Int) + 1, (0 : Int)) = r) := by show _ = r; rw [← HQ.out, if_neg (by omega)]; simp
              clear HQ HB
              generalize u + s[p + k].toNat % 128 * 2 ^ (7 * k) = v at *
              cases hv1 : ((v : Int) % 2 == 1)
              · go_wp2
                rw [unf_even v HL.out hv1]
                exact bodyPost_ret (v := numOut (unfoldZ v, (p : Int) + (k : Int) + 1, 0)) (by simp [results, Tryd.results14, go_sem, numOut]) rfl ⟨by rw [HQ2.out], (Below.refl _ _).alloc (Nat.le_refl _) _⟩
              · go_wp2
                rw [unf_odd v HL.out hv1]
                exact bodyPost_ret (v := numOut (unfoldZ v, (p : Int) + (k : Int) + 1, 0)) (by simp [results, Tryd.results14, go_sem, numOut]) rfl ⟨by rw [HQ2.out], (Below.refl _ _).alloc (Nat.le_refl _) _⟩
            · have hbn0 : (s[p + k].toNat : Int) = 0 := by simpa using hb0
              have HBN := Lib.hid (show s[p + k].toNat = 0 from by omega)
              clear hbn0
              by_cases hk0 : 0 < (k : Int)
              · have HQ3 : Hid (((0 : Int), (0 : Int), (3 : Int)) = r) := by show _ = r; rw [← HQ.out, if_pos (by have := HBN.out; omega)]
                go_wp2
                exact bodyPost_ret (v := numOut (0, 0, 3)) (by simp [results, Tryd.results14, go_sem, numOut]) rfl ⟨by rw [HQ3.out], (Below.refl _ _).alloc (Nat.le_refl _) _⟩
              · have hd0 : decide (0 < (k : Int)) = false := by simpa using hk0
                have hv := HV.out
                have HL := Lib.hid (step_lt (b := s[p + k].toNat) H.out.1 (by omega))
                have HQ2 : Hid ((unfoldZ (u + s[p + k].toNat % 128 * 2 ^ (7 * k)), (p : Int) + (k : Int) + 1, (0 : Int)) = r) := by show _ = r; rw [← HQ.out, if_neg (by omega)]; simp
                clear HQ HB
                generalize u + s[p + k].toNat % 128 * 2 ^ (7 * k) = v at *
                cases hv1 : ((v : Int) % 2 == 1)
                · go_wp2
                  rw [unf_even v HL.out hv1]
                  exact bodyPost_ret (v := numOut (unfoldZ v, (p : Int) + (k : Int) + 1, 0)) (by simp [results, Tryd.results14, go_sem, numOut]) rfl ⟨by rw [HQ2.out], (Below.refl _ _).alloc (Nat.le_refl _) _⟩
                · go_wp2
                  rw [unf_odd v HL.out hv1]
                  exact bodyPost_ret (v := numOut (unfoldZ v, (p : Int) + (k : Int) + 1, 0)) (by simp [results, Tryd.results14, go_sem, numOut]) rfl ⟨by rw [HQ2.out], (Below.refl _ _).alloc (Nat.le_refl _) _⟩
          · have hv := HV.out
            have HS := Lib.hid (step_next (b := s[p + k].toNat) H.out.1)
            have HQ : Hid (rd s (10 - (k + 1)) (p + (k + 1)) (k + 1) (u + s[p + k].toNat % 128 * 2 ^ (7 * k)) = r) := by
              show _ = r
              rw [← H.out.2]; exact rd_more hk rfl hlt HB.out hk9n (by omega)
            generalize u + s[p + k].toNat % 128 * 2 ^ (7 * k) = v at *
            go_wp2
            go_round
            case rel => exact ⟨k + 1, v, by go_num, rfl, by omega, HS.out, HQ.out⟩
            case measure => simp [intOf]; omega
        · have hk9n : (k : Int) = 9 := by simpa using hk9
          have HK := Lib.hid (show k = 9 from by omega)
          clear hk9n
          by_cases h1 : 1 < (s[p + k].toNat : Int)
          · have HQ3 : Hid (((0 : Int), (0 : Int), (3 : Int)) = r) := by show _ = r; rw [← H.out.2]; exact rd_big HK.out hlt HB.out (by omega)
            go_wp2
            exact bodyPost_ret (v := numOut (0, 0, 3)) (by simp [results, Tryd.results14, go_sem, numOut]) rfl ⟨by rw [HQ3.out], (Below.refl _ _).alloc (Nat.le_refl _) _⟩
          · have hd1 : decide (1 < (s[p + k].toNat : Int)) = false := by simpa using h1
            have HV := Lib.hid (add_step u s[p + k].toNat (7 * k) H.out.1 (by omega))
            have h128 : (s[p + k].toNat : Int) < 128 := by omega
            have HQ : Hid ((if s[p + k].toNat = 0 ∧ 0 < 7 * k then (0, 0, 3) else (unfoldZ (u + s[p + k].toNat % 128 * 2 ^ (7 * k)), ((p + k + 1 : Nat) : Int), 0)) = r) := by
              show _ = r
              rw [← H.out.2]; exact rd_last hk rfl hlt HB.out (by omega) (by omega)
            cases hb0 : ((s[p + k].toNat : Int) == 0)
            · have hbn : s[p + k].toNat ≠ 0 := by intro h; rw [h] at hb0; simp at hb0
              have hv := HV.out
              have HL := Lib.hid (step_lt (b := s[p + k].toNat) H.out.1 (by omega))
              have HQ2 : Hid ((unfoldZ (u + s[p + k].toNat % 128 * 2 ^ (7 * k)), (p : Int) + (k : Int) + 1, (0 : Int)) = r) := by show _ = r; rw [← HQ.out, if_neg (by omega)]; simp
              clear HQ HB
              generalize u + s[p + k].toNat % 128 * 2 ^ (7 * k) = v at *
              cases hv1 : ((v : Int) % 2 == 1)
              · go_wp2
                rw [unf_even v HL.out hv1]
                exact bodyPost_ret (v := numOut (unfoldZ v, (p : Int) + (k : Int) + 1, 0)) (by simp [results, Tryd.results14, go_sem, numOut]) rfl ⟨by rw [HQ2.out], (Below.refl _ _).alloc (Nat.le_refl _) _⟩
              · go_wp2
                rw [unf_odd v HL.out hv1]
                exact bodyPost_ret (v := numOut (unfoldZ v, (p : Int) + (k : Int) + 1, 0)) (by simp [results, Tryd.results14, go_sem, numOut]) rfl ⟨by rw [HQ2.out], (Below.refl _ _).alloc (Nat.le_refl _) _⟩
            · have hbn0 : (s[p + k].toNat : Int) = 0 := by simpa using hb0
              have HBN := Lib.hid (show s[p + k].toNat = 0 from by omega)
              clear hbn0
              by_cases hk0 : 0 < (k : Int)
              · have HQ3 : Hid (((0 : Int), (0 : Int), (3 : Int)) = r) := by show _ = r; rw [← HQ.out, if_pos (by have := HBN.out; omega)]
                go_wp2
                exact bodyPost_ret (v := numOut (0, 0, 3)) (by simp [results, Tryd.results14, go_sem, numOut]) rfl ⟨by rw [HQ3.out], (Below.refl _ _).alloc (Nat.le_refl _) _⟩
              · have hd0 : decide (0 < (k : Int)) = false := by simpa using hk0
                have hv := HV.out
                have HL := Lib.hid (step_lt (b := s[p + k].toNat) H.out.1 (by omega))
                have HQ2 : Hid ((unfoldZ (u + s[p + k].toNat % 128 * 2 ^ (7 * k)), (p : Int) + (k : Int) + 1, (0 : Int)) = r) := by show _ = r; rw [← HQ.out, if_neg (by omega)]; simp
                clear HQ HB
                generalize u + s[p + k].toNat % 128 * 2 ^ (7 * k) = v at *
                cases hv1 : ((v : Int) % 2 == 1)
                · go_wp2
                  rw [unf_even v HL.out hv1]
                  exact bodyPost_ret (v := numOut (unfoldZ v, (p : Int) + (k : Int) + 1, 0)) (by simp [results, Tryd.results14, go_sem, numOut]) rfl ⟨by rw [HQ2.out], (Below.refl _ _).alloc (Nat.le_refl _) _⟩
                · go_wp2
                  rw [unf_odd v HL.out hv1]
                  exact bodyPost_ret (v := numOut (unfoldZ v, (p : Int) + (k : Int) + 1, 0)) (by simp [results, Tryd.results14, go_sem, numOut]) rfl ⟨by rw [HQ2.out], (Below.refl _ _).alloc (Nat.le_refl _) _⟩
      · go_wp2
        exact bodyPost_ret (v := numOut (0, 0, 4)) (by simp [results, Tryd.results14, go_sem, numOut]) rfl ⟨by rw [← H.out.2, ← rd_short hk (by omega)], (Below.refl _ _).alloc (Nat.le_refl _) _⟩
end Go.Proofs.YtdpmneoodolgdaaDoor
