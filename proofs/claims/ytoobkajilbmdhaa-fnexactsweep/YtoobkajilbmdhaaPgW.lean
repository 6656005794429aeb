/- The program's weights. -/
import Derived.Test.YtoobkajilbmdhaaWtA
import Derived.Test.YtoobkajilbmdhaaInts
import Derived.Test.YtoobkajilbmdhaaBools
import Derived.Test.YtoobkajilbmdhaaPgH
namespace Go.Proofs.Ytoobkajilbmdhaa
open Go.RowKit
set_option linter.unusedVariables false

/-- The first m quarters are marked. -/
def markTo (M : List Bool) (a b c d : Nat) : Nat → List Bool
  | 0 => M
  | 1 => M.set a true
  | 2 => (M.set a true).set b true
  | 3 => ((M.set a true).set b true).set c true
  | _ => (((M.set a true).set b true).set c true).set d true
set_option maxRecDepth 100000 in
set_option maxHeartbeats 2000000 in
theorem pNeeded_any (A : Option Addr) (c : Nat) (l : List Nd) (R : Option Addr) (cr : Nat) (rs : List Nat) (w : World) (h : RN w w.heap.size A l) (hr : poolRight l = true) (hR : RI w w.heap.size R (rs.map fun (r : Nat) => (r : Int))) (hrs : ∀ r ∈ rs, r < l.length) (hrl : rs.length ≤ 1000000000) :
    Calls Try.prog 36 #[.slice A l.length c, .slice R rs.length cr] w fun e w' => e = .returned (.slice (some ⟨w.heap.size, 0, none⟩) l.length l.length) ∧ OwnB w' w.heap.size (.slice (some ⟨w.heap.size, 0, none⟩) l.length l.length) (needA l rs) ∧ Below w.heap.size w w' := by
  obtain ⟨i0, hi, hz0, hz1, hz2⟩ := info_parts Try.infoBool
  have hl := pool_len hr
  have HR := Lib.hid hr
  have H := Lib.hid h
  have HRI := Lib.hid hR
  have HRS := Lib.hid hrs
  clear h hr hR hrs
  have hw1 : wrap64 ((l.length : Int) - 1) = (l.length : Int) - 1 := wrap64_in (by omega) (by omega)
  go_enter Try.func36, Try.ntmps36
  go_wp2_with (at_make; refine wpList_make_full _ rfl _ _ 60 rfl w.heap.size 4 i0 (.bool false) 1 Try.underlying60 hi hz0 hz1 .i64 .i64 _ _ l.length rfl rfl (by go_num) (by go_num) ?b2 ?b3 (Nat.le_refl _) ?_)
  case b2 => rw [hz2]; omega
  case b3 => unfold maxLen; omega
  intro w1 hown1 hgrow1
  have HO1 := Lib.hid (own_falses hown1)
  have HB1 : Hid (Below w.heap.size w w1) := (Below.refl _ _).grown hgrow1 (Nat.le_refl _) (fun k hk => by cases hk)
  clear hown1 hgrow1
  go_wp2
  go_loopw [16] (fun i wr => ∃ k : Nat, i = .int .i64 k ∧ k ≤ rs.length ∧ OwnB wr w.heap.size (.slice (some ⟨w.heap.size, 0, none⟩) l.length l.length) (markAll (List.replicate l.length false) (rs.take k)) ∧ Below w.heap.size w wr) (fun i _ => rs.length - (intOf i).toNat)
  case atStart => exact ⟨0, rfl, Nat.zero_le _, HO1.out, HB1.out⟩
  case round =>
    obtain ⟨k, rfl, hk, how, hb⟩ := hrel
    have HO := Lib.hid how
    have HB := Lib.hid hb
    clear HO1 HB1
    by_cases hlt : k < rs.length
    · obtain ⟨b, off, rfl, hbl, hc⟩ := (HRI.out.below hb).at_ (j := k) (by simpa using hlt)
      have hrk := HRS.out rs[k] (List.getElem_mem hlt)
      have HST := Lib.hid (markAll_step (M := List.replicate l.length false) hlt)
      have HS := Lib.hid (how.store (j := rs[k]) true)
      obtain ⟨g, e, _, _, cj, fj⟩ := how.at_ (j := rs[k]) (by rw [markAll_len]; simpa using hrk)
      cases e
      simp only [List.getElem_map] at hc
      have r0 : (0 : Int) ≤ (rs[k] : Int) := by omega
      have r1 : (rs[k] : Int) < (l.length : Int) := by omega
      have hkI : (k : Int) < (rs.length : Int) := by omega
      clear how hb
      generalize rs[k] = r at *
      go_wp2
      go_roundw
      case rel => exact ⟨k + 1, by go_num, by omega, by rw [HST.out]; exact HS.out.1, HB.out.setCell (Nat.le_refl _) _⟩
      case measure => simp [intOf]; omega
    · have HOE : Hid (OwnB wr w.heap.size (.slice (some ⟨w.heap.size, 0, none⟩) l.length l.length) (markAll (List.replicate l.length false) rs)) := by
        have e : rs.take k = rs := List.take_of_length_le (by omega)
        have := HO.out
        rw [e] at this
        exact this
      clear how hb HO
      go_wp2
      go_loopw [8] (fun i wr => ∃ (j : Nat) (M : List Bool), i = .int .i64 ((j : Int) - 1) ∧ j ≤ l.length ∧ OwnB wr w.heap.size (.slice (some ⟨w.heap.size, 0, none⟩) l.length l.length) M ∧ Below w.heap.size w wr ∧ Hid (downP l j M = needA l rs)) (fun i _ => (intOf i + 1).toNat)
      case atStart => exact ⟨l.length, _, by go_num, Nat.le_refl _, HOE.out, HB.out, rfl⟩
      case round =>
        obtain ⟨j, M, rfl, hj, how, hb, HD⟩ := hrel
        have HO := Lib.hid how
        have HB := Lib.hid hb
        have HML := Lib.hid how.len
        clear HOE
        cases j with
        | succ j =>
          have ej : ((j + 1 : Nat) : Int) - 1 = (j : Int) := by omega
          rw [ej] at *
          have hjl : j < l.length := by omega
          obtain ⟨b, off, rfl, hbl, hn⟩ := (H.out.below hb).at_ hjl
          obtain ⟨g, e, _, _, cj, fj⟩ := how.at_ (j := j) (by have := HML.out; omega)
          cases e
          have hok := right_node HR.out hjl
          have hsp := right_sp HR.out hjl
          have HD2 := HD.out
          rw [downP, ndAt_eq hjl, show M.getD j false = M[j]'(by have := HML.out; omega) by simp [List.getD, show j < M.length by have := HML.out; omega]] at HD2
          clear how hb HD
          generalize hnk2 : l[j] = n at hn hok hsp HD2
          clear hnk2
          have hS := pSplit_any n
          have j0 : (0 : Int) ≤ (j : Int) := by omega
          have j1 : (j : Int) < (l.length : Int) := by omega
          have hwj : wrap64 ((j : Int) - 1) = (j : Int) - 1 := wrap64_in (by omega) (by omega)
          cases hm : M[j]'(by have := HML.out; omega)
          · rw [hm] at cj HD2
            have HD3 : Hid (downP l j M = needA l rs) := by show _ = _; simpa using HD2
            clear hm HD2 hok hsp hS hn
            go_wp2
            go_roundw
            case rel => exact ⟨j, M, by go_num, by omega, HO.out, HB.out, HD3⟩
            case measure => first | (simp [intOf]; done) | (simp [intOf]; omega)
          · rw [hm] at cj HD2
            cases hlf : isSp n
            · rw [hlf] at hS hsp
              rw [hsp] at HD2
              have HD3 : Hid (downP l j M = needA l rs) := by show _ = _; simpa using HD2
              clear hm HD2 hok hsp hlf
              obtain ⟨nt, na, nb, nc, nd⟩ := n
              unfold Nd.val at hS
              obtain ⟨d0, d1, d2, d3, d4⟩ := hn
              simp only at d0 d1 d2 d3 d4 hS
              go_wp2_with fail
              refine (hS _).mono ?_
              rintro e w2 ⟨rfl, hb2⟩
              have HB2 := Lib.hid (HB.out.trans (hb2.mono HB.out.size))
              have HO2 := Lib.hid (HO.out.keep hb2)
              clear hb2
              go_wp2
              go_roundw
              case rel => exact ⟨j, M, by go_num, by omega, HO2.out, HB2.out, HD3⟩
              case measure => first | (simp [intOf]; done) | (simp [intOf]; omega)
            · rw [hlf] at hS hsp
              obtain ⟨q0, qa, qb, qc, qd⟩ := ok_split hok hsp
              clear q0
              rw [hsp] at HD2
              have HD3 : Hid (downP l j (markQ M n) = needA l rs) := by show _ = _; simpa using HD2
              have hQ := pQuarters_any n
              clear hm HD2 hok hsp hlf
              obtain ⟨nt, na, nb, nc, nd⟩ := n
              simp only [markQ] at qa qb qc qd HD3
              obtain ⟨ia, rfl⟩ := Int.eq_ofNat_of_zero_le qa.1
              obtain ⟨ib, rfl⟩ := Int.eq_ofNat_of_zero_le qb.1
              obtain ⟨ic, rfl⟩ := Int.eq_ofNat_of_zero_le qc.1
              obtain ⟨id, rfl⟩ := Int.eq_ofNat_of_zero_le qd.1
              simp only [Int.toNat_natCast] at HD3
              unfold Nd.val at hS hQ
              unfold qV at hQ
              obtain ⟨d0, d1, d2, d3, d4⟩ := hn
              simp only at d0 d1 d2 d3 d4 hS hQ
              go_wp2_with fail
              refine (hS _).mono ?_
              rintro e w2 ⟨rfl, hb2⟩
              have HB2 := Lib.hid (HB.out.trans (hb2.mono HB.out.size))
              have HO2 := Lib.hid (HO.out.keep hb2)
              have hh := fun o => hb2.cell (p := ⟨b, off + j * 5 + o, none⟩) (show b < wr.heap.size from Nat.lt_of_lt_of_le hbl HB.out.size)
              have d0' := (hh 0).trans d0
              have d1' := (hh 1).trans d1
              have d2' := (hh 2).trans d2
              have d3' := (hh 3).trans d3
              have d4' := (hh 4).trans d4
              simp only [Nat.add_zero] at d0'
              clear hb2 hh d0 d1 d2 d3 d4 cj fj
              go_wp2_with fail
              refine (hQ _).mono ?_
              rintro e w3 ⟨rfl, hb3⟩
              have HB3 := Lib.hid (HB2.out.trans (hb3.mono HB2.out.size))
              have HO3 := Lib.hid (HO2.out.keep hb3)
              clear hb3 d0' d1' d2' d3' d4'
              go_wp2
              go_loopw [49] (fun i wr => ∃ m : Nat, i = .int .i64 m ∧ m ≤ 4 ∧ OwnB wr w.heap.size (.slice (some ⟨w.heap.size, 0, none⟩) l.length l.length) (markTo M ia ib ic id m) ∧ Below w.heap.size w wr) (fun i _ => 4 - (intOf i).toNat)
              case atStart => exact ⟨0, rfl, Nat.zero_le _, HO3.out, HB3.out⟩
              case round =>
                obtain ⟨m, rfl, hm, how, hb⟩ := hrel
                have HO4 := Lib.hid how
                have HB4 := Lib.hid hb
                clear how hb
                by_cases hm4 : m = 4
                · subst hm4
                  go_wp2
                  go_roundw
                  case rel => exact ⟨j, _, by go_num, by omega, HO4.out, HB4.out, HD3⟩
                  case measure => first | (simp [intOf]; done) | (simp [intOf]; omega)
                · have h4 : m = 0 ∨ m = 1 ∨ m = 2 ∨ m = 3 := by omega
                  rcases h4 with rfl | rfl | rfl | rfl
                  · have hix := index_quad0 ia ib ic id
                    have HS := Lib.hid (HO4.out.store (j := ia) true)
                    obtain ⟨g, e, _, _, cq, fq⟩ := HO4.out.at_ (j := ia) (by rw [← HO4.out.len]; omega)
                    cases e
                    have q0 : (0 : Int) ≤ ia := by omega
                    have q1 : (ia : Int) < (l.length : Int) := by omega
                    go_wp2
                    go_roundw
                    case rel => exact ⟨1, by go_num, by omega, HS.out.1, HB4.out.setCell (Nat.le_refl _) _⟩
                    case measure => simp [intOf]
                  · have hix := index_quad1 ia ib ic id
                    have HS := Lib.hid (HO4.out.store (j := ib) true)
                    obtain ⟨g, e, _, _, cq, fq⟩ := HO4.out.at_ (j := ib) (by rw [← HO4.out.len]; omega)
                    cases e
                    have q0 : (0 : Int) ≤ ib := by omega
                    have q1 : (ib : Int) < (l.length : Int) := by omega
                    go_wp2
                    go_roundw
                    case rel => exact ⟨2, by go_num, by omega, HS.out.1, HB4.out.setCell (Nat.le_refl _) _⟩
                    case measure => simp [intOf]
                  · have hix := index_quad2 ia ib ic id
                    have HS := Lib.hid (HO4.out.store (j := ic) true)
                    obtain ⟨g, e, _, _, cq, fq⟩ := HO4.out.at_ (j := ic) (by rw [← HO4.out.len]; omega)
                    cases e
                    have q0 : (0 : Int) ≤ ic := by omega
                    have q1 : (ic : Int) < (l.length : Int) := by omega
                    go_wp2
                    go_roundw
                    case rel => exact ⟨3, by go_num, by omega, HS.out.1, HB4.out.setCell (Nat.le_refl _) _⟩
                    case measure => simp [intOf]
                  · have hix := index_quad3 ia ib ic id
                    have HS := Lib.hid (HO4.out.store (j := id) true)
                    obtain ⟨g, e, _, _, cq, fq⟩ := HO4.out.at_ (j := id) (by rw [← HO4.out.len]; omega)
                    cases e
                    have q0 : (0 : Int) ≤ id := by omega
                    have q1 : (id : Int) < (l.length : Int) := by omega
                    go_wp2
                    go_roundw
                    case rel => exact ⟨4, by go_num, by omega, HS.out.1, HB4.out.setCell (Nat.le_refl _) _⟩
                    case measure => simp [intOf]
        | zero =>
          have HD2 := HD.out
          rw [downP] at HD2
          have em : ((0 : Nat) : Int) - 1 = -1 := by omega
          rw [em] at *
          rw [HD2] at HO
          clear how hb HD HD2
          go_wp2
          go_ret
          exact ⟨rfl, HO.out, HB.out⟩
end Go.Proofs.Ytoobkajilbmdhaa
