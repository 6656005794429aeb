/- The program's weights. -/
import Derived.Test.YtcadjfnfjakbeaaWt
import Derived.Test.YtcadjfnfjakbeaaBools
import Derived.Test.YtcadjfnfjakbeaaPgH
namespace Go.Proofs.Ytcadjfnfjakbeaa
open Go.RowKit
set_option linter.unusedVariables false

/-- The first m quarters are marked. -/
def markTo (M : List Bool) (a b c d : Nat) : Nat → List Bool
  | 0 => M
  | 1 => M.set a true
  | 2 => (M.set a true).set b true
  | 3 => ((M.set a true).set b true).set c true
  | _ => (((M.set a true).set b true).set c true).set d true
set_option maxRecDepth 100000 in
set_option maxHeartbeats 2000000 in
theorem pNeeded_any (A : Option Addr) (c : Nat) (l : List Nd) (root : Nat) (w : World) (h : RN w w.heap.size A l) (hr : poolRight l = true) (hroot : root < l.length) :
    Calls Try.prog 97 #[.slice A l.length c, .int .i64 root] w fun e w' => e = .returned (.slice (some ⟨w.heap.size, 0, none⟩) (root + 1) (root + 1)) ∧ OwnB w' w.heap.size (.slice (some ⟨w.heap.size, 0, none⟩) (root + 1) (root + 1)) (needL l root) ∧ Below w.heap.size w w' := by
  obtain ⟨i0, hi, hz0, hz1, hz2⟩ := info_parts Try.infoBool
  have hl := pool_len hr
  have HR := Lib.hid hr
  have H := Lib.hid h
  clear h hr
  have hw1 : wrap64 ((root : Int) + 1) = ((root + 1 : Nat) : Int) := by rw [wrap64_in (by omega) (by omega)]; omega
  go_enter Try.func97, Try.ntmps97
  go_wp2_with (at_make; refine wpList_make_full _ rfl _ _ 110 rfl w.heap.size 4 i0 (.bool false) 1 Try.underlying110 hi hz0 hz1 .i64 .i64 _ _ (root + 1) rfl rfl (by go_num) (by go_num) ?b2 ?b3 (Nat.le_refl _) ?_)
  case b2 => rw [hz2]; omega
  case b3 => unfold maxLen; omega
  intro w1 hown1 hgrow1
  have ho1 := own_falses hown1
  have hb1 : Below w.heap.size w w1 := (Below.refl _ _).grown hgrow1 (Nat.le_refl _) (fun k hk => by cases hk)
  have HS1 := Lib.hid (ho1.store (j := root) true)
  have HB1 := Lib.hid hb1
  obtain ⟨g, e, _, _, c1, f1⟩ := ho1.at_ (j := root) (by simp)
  cases e
  have r0 : (0 : Int) ≤ root := by omega
  have r1 : (root : Int) < (root : Int) + 1 := by omega
  clear hown1 hgrow1 ho1 hb1
  go_wp2
  clear c1 f1
  go_loopw [6] (fun i wr => ∃ (j : Nat) (M : List Bool), i = .int .i64 ((j : Int) - 1) ∧ j ≤ root + 1 ∧ OwnB wr w.heap.size (.slice (some ⟨w.heap.size, 0, none⟩) (root + 1) (root + 1)) M ∧ Below w.heap.size w wr ∧ Hid (downP l j M = needL l root)) (fun i _ => (intOf i + 1).toNat)
  case atStart => exact ⟨root + 1, _, by go_num, Nat.le_refl _, HS1.out.1, HB1.out.setCell (Nat.le_refl _) _, rfl⟩
  case round =>
    obtain ⟨j, M, rfl, hj, how, hb, HD⟩ := hrel
    have HO := Lib.hid how
    have HB := Lib.hid hb
    have hML := how.len
    clear HS1 HB1
    cases j with
    | succ j =>
      have ej : ((j + 1 : Nat) : Int) - 1 = (j : Int) := by omega
      rw [ej] at *
      have hjl : j < l.length := by omega
      obtain ⟨b, off, rfl, hbl, hn⟩ := (H.out.below hb).at_ hjl
      obtain ⟨g, e, _, _, cj, fj⟩ := how.at_ (j := j) (by omega)
      cases e
      have hok := right_node HR.out hjl
      have hsp := right_sp HR.out hjl
      have HD2 := HD.out
      rw [downP, ndAt_eq hjl, show M.getD j false = M[j]'(by omega) by simp [List.getD, show j < M.length by omega]] at HD2
      clear how hb HD
      generalize hnk2 : l[j] = n at hn hok hsp HD2
      clear hnk2
      have hS := pSplit_any n
      have j0 : (0 : Int) ≤ (j : Int) := by omega
      have j1 : (j : Int) < (l.length : Int) := by omega
      have j2 : (j : Int) < (root : Int) + 1 := by omega
      have hwj : wrap64 ((j : Int) - 1) = (j : Int) - 1 := wrap64_in (by omega) (by omega)
      cases hm : M[j]'(by omega)
      · rw [hm] at cj HD2
        have HD3 : Hid (downP l j M = needL l root) := by show _ = _; simpa using HD2
        clear hm HD2 hok hsp hS hn hML
        go_wp2
        go_roundw
        case rel => exact ⟨j, M, by go_num, by omega, HO.out, HB.out, HD3⟩
        case measure => first | (simp [intOf]; done) | (simp [intOf]; omega)
      · rw [hm] at cj HD2
        cases hlf : isSp n
        · rw [hlf] at hS hsp
          rw [hsp] at HD2
          have HD3 : Hid (downP l j M = needL l root) := by show _ = _; simpa using HD2
          clear hm HD2 hok hsp hlf hML
          obtain ⟨nt, na, nb, nc, nd⟩ := n
          unfold Nd.val at hS
          obtain ⟨d0, d1, d2, d3, d4⟩ := hn
          simp only at d0 d1 d2 d3 d4 hS
          go_wp2_with fail
          refine (hS _).mono ?_
          rintro e w2 ⟨rfl, hb2⟩
          have HB2 := Lib.hid (HB.out.trans (hb2.mono HB.out.size))
          have HO2 := Lib.hid (HO.out.keep hb2)
          clear hb2
          go_wp2
          go_roundw
          case rel => exact ⟨j, M, by go_num, by omega, HO2.out, HB2.out, HD3⟩
          case measure => first | (simp [intOf]; done) | (simp [intOf]; omega)
        · rw [hlf] at hS hsp
          obtain ⟨q0, qa, qb, qc, qd⟩ := ok_split hok hsp
          clear q0
          rw [hsp] at HD2
          have HD3 : Hid (downP l j (markQ M n) = needL l root) := by show _ = _; simpa using HD2
          have hQ := pQuarters_any n
          clear hm HD2 hok hsp hlf hML
          obtain ⟨nt, na, nb, nc, nd⟩ := n
          simp only [markQ] at qa qb qc qd HD3
          obtain ⟨ia, rfl⟩ := Int.eq_ofNat_of_zero_le qa.1
          obtain ⟨ib, rfl⟩ := Int.eq_ofNat_of_zero_le qb.1
          obtain ⟨ic, rfl⟩ := Int.eq_ofNat_of_zero_le qc.1
          obtain ⟨id, rfl⟩ := Int.eq_ofNat_of_zero_le qd.1
          simp only [Int.toNat_natCast] at HD3
          unfold Nd.val at hS hQ
          unfold qV at hQ
          obtain ⟨d0, d1, d2, d3, d4⟩ := hn
          simp only at d0 d1 d2 d3 d4 hS hQ
          go_wp2_with fail
          refine (hS _).mono ?_
          rintro e w2 ⟨rfl, hb2⟩
          have HB2 := Lib.hid (HB.out.trans (hb2.mono HB.out.size))
          have HO2 := Lib.hid (HO.out.keep hb2)
          have hh := fun o => hb2.cell (p := ⟨b, off + j * 5 + o, none⟩) (show b < wr.heap.size from Nat.lt_of_lt_of_le hbl HB.out.size)
          have d0' := (hh 0).trans d0
          have d1' := (hh 1).trans d1
          have d2' := (hh 2).trans d2
          have d3' := (hh 3).trans d3
          have d4' := (hh 4).trans d4
          simp only [Nat.add_zero] at d0'
          clear hb2 hh d0 d1 d2 d3 d4 cj fj
          go_wp2_with fail
          refine (hQ _).mono ?_
          rintro e w3 ⟨rfl, hb3⟩
          have HB3 := Lib.hid (HB2.out.trans (hb3.mono HB2.out.size))
          have HO3 := Lib.hid (HO2.out.keep hb3)
          clear hb3 d0' d1' d2' d3' d4'
          go_wp2
          go_loopw [38] (fun i wr => ∃ m : Nat, i = .int .i64 m ∧ m ≤ 4 ∧ OwnB wr w.heap.size (.slice (some ⟨w.heap.size, 0, none⟩) (root + 1) (root + 1)) (markTo M ia ib ic id m) ∧ Below w.heap.size w wr) (fun i _ => 4 - (intOf i).toNat)
          case atStart => exact ⟨0, rfl, Nat.zero_le _, HO3.out, HB3.out⟩
          case round =>
            obtain ⟨m, rfl, hm, how, hb⟩ := hrel
            have HO4 := Lib.hid how
            have HB4 := Lib.hid hb
            clear how hb
            by_cases hm4 : m = 4
            · subst hm4
              go_wp2
              go_roundw
              case rel => exact ⟨j, _, by go_num, by omega, HO4.out, HB4.out, HD3⟩
              case measure => first | (simp [intOf]; done) | (simp [intOf]; omega)
            · have h4 : m = 0 ∨ m = 1 ∨ m = 2 ∨ m = 3 := by omega
              rcases h4 with rfl | rfl | rfl | rfl
              · have hix := index_quad0 ia ib ic id
                have HS := Lib.hid (HO4.out.store (j := ia) true)
                obtain ⟨g, e, _, _, cq, fq⟩ := HO4.out.at_ (j := ia) (by rw [← HO4.out.len]; omega)
                cases e
                have q0 : (0 : Int) ≤ ia := by omega
                have q1 : (ia : Int) < (root : Int) + 1 := by omega
                go_wp2
                go_roundw
                case rel => exact ⟨1, by go_num, by omega, HS.out.1, HB4.out.setCell (Nat.le_refl _) _⟩
                case measure => simp [intOf]
              · have hix := index_quad1 ia ib ic id
                have HS := Lib.hid (HO4.out.store (j := ib) true)
                obtain ⟨g, e, _, _, cq, fq⟩ := HO4.out.at_ (j := ib) (by rw [← HO4.out.len]; omega)
                cases e
                have q0 : (0 : Int) ≤ ib := by omega
                have q1 : (ib : Int) < (root : Int) + 1 := by omega
                go_wp2
                go_roundw
                case rel => exact ⟨2, by go_num, by omega, HS.out.1, HB4.out.setCell (Nat.le_refl _) _⟩
                case measure => simp [intOf]
              · have hix := index_quad2 ia ib ic id
                have HS := Lib.hid (HO4.out.store (j := ic) true)
                obtain ⟨g, e, _, _, cq, fq⟩ := HO4.out.at_ (j := ic) (by rw [← HO4.out.len]; omega)
                cases e
                have q0 : (0 : Int) ≤ ic := by omega
                have q1 : (ic : Int) < (root : Int) + 1 := by omega
                go_wp2
                go_roundw
                case rel => exact ⟨3, by go_num, by omega, HS.out.1, HB4.out.setCell (Nat.le_refl _) _⟩
                case measure => simp [intOf]
              · have hix := index_quad3 ia ib ic id
                have HS := Lib.hid (HO4.out.store (j := id) true)
                obtain ⟨g, e, _, _, cq, fq⟩ := HO4.out.at_ (j := id) (by rw [← HO4.out.len]; omega)
                cases e
                have q0 : (0 : Int) ≤ id := by omega
                have q1 : (id : Int) < (root : Int) + 1 := by omega
                go_wp2
                go_roundw
                case rel => exact ⟨4, by go_num, by omega, HS.out.1, HB4.out.setCell (Nat.le_refl _) _⟩
                case measure => simp [intOf]
    | zero =>
      have HD2 := HD.out
      rw [downP] at HD2
      have em : ((0 : Nat) : Int) - 1 = -1 := by omega
      rw [em] at *
      rw [HD2] at HO
      clear how hb HD HD2 hML
      go_wp2
      go_ret
      exact ⟨rfl, HO.out, HB.out⟩
end Go.Proofs.Ytcadjfnfjakbeaa
