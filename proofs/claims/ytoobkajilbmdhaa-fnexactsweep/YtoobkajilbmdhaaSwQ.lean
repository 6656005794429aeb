/- The program's Sweep. -/
import Derived.Test.YtoobkajilbmdhaaSwP
import Derived.Test.YtoobkajilbmdhaaSwZ
import Derived.Test.YtoobkajilbmdhaaPgW
import Derived.Deep.RegionWith
import Derived.Deep.RegionHeld3
namespace Go.Proofs.Ytoobkajilbmdhaa
open Go.RowKit
set_option linter.unusedVariables false
set_option linter.unusedSimpArgs false

set_option maxRecDepth 100000 in
set_option maxHeartbeats 4000000 in
theorem pSweep_any (A : Option Addr) (c : Nat) (l : List Nd) (B : Option Addr) (cb : Nat) (rs : List Int) (w : World) (h : RN w w.heap.size A l) (h' : RI w w.heap.size B rs) (hl : l.length ≤ 1048576) (hc : l.length ≤ c) (hf : ∀ n ∈ l, n.Fits) (hrl : rs.length ≤ 1000000000) :
    Calls Try.prog 22 #[.agg #[.slice A l.length c], .slice B rs.length cb] w (SOut w (sweepO l rs)) := by
  have HZ0 := Lib.hid (Zw.made w A c l B rs h h')
  have hPR := fun w h => pPoolRight_any A c l w h hl hc hf
  clear h h' hf
  by_cases h4 : 400 < rs.length
  · have HE : Hid (sweepO l rs = (2, [], [])) := by show _ = _; rw [sweepO, if_pos h4]
    have hd : decide ((400 : Int) < (rs.length : Int)) = true := decide_eq_true (by omega)
    obtain ⟨c0, c1, c2, f0, f1, f2⟩ := HZ0.out.z
    clear hPR h4
    go_enter Try.func22, Try.ntmps22
    go_wp2
    refine bodyPost_ret (v := .agg #[.slice none 0 0, .slice none 0 0, .int .i64 2]) (by simp [results, Try.results22, go_sem, c0, c1, c2]) rfl ?_
    rw [HE.out]
    exact ⟨none, 0, none, 0, rfl, OwnN.nil _ _, OwnI.nil _ _ _ _, (fun k e => by cases e), ((Below.refl _ _).alloc (Nat.le_refl _) _).alloc (by simp) _⟩
  · have hd : decide ((400 : Int) < (rs.length : Int)) = false := decide_eq_false (by omega)
    cases hr : poolRight l
    · rw [hr] at hPR
      have HE : Hid (sweepO l rs = (1, [], [])) := by show _ = _; rw [sweepO, if_neg h4, hr]; rfl
      clear h4 hr
      go_enter Try.func22, Try.ntmps22
      go_wp2_with fail
      refine (hPR _ HZ0.out.p.rn).mono ?_
      rintro e w1 ⟨rfl, hb1⟩
      have HZ1 := Lib.hid (HZ0.out.below hb1)
      obtain ⟨c0, c1, c2, f0, f1, f2⟩ := HZ1.out.z
      clear hb1
      go_wp2
      refine bodyPost_ret (v := .agg #[.slice none 0 0, .slice none 0 0, .int .i64 1]) (by simp [results, Try.results22, go_sem, c0, c1, c2]) rfl ?_
      rw [HE.out]
      exact ⟨none, 0, none, 0, rfl, OwnN.nil _ _, OwnI.nil _ _ _ _, (fun k e => by cases e), ((HZ1.out.p.bel.setCell (by simp) _).setCell (by simp) _).setCell (by simp) _⟩
    · rw [hr] at hPR
      by_cases h14 : 14 < rs.length
      · have HE : Hid (sweepO l rs = (1, [], [])) := by
          show _ = _
          rw [sweepO, if_neg h4, hr, decide_eq_false (show ¬ rs.length ≤ 14 by omega)]
          rfl
        have hd2 : decide ((14 : Int) < (rs.length : Int)) = true := decide_eq_true (by omega)
        clear h4 hr h14
        go_enter Try.func22, Try.ntmps22
        go_wp2_with fail
        refine (hPR _ HZ0.out.p.rn).mono ?_
        rintro e w1 ⟨rfl, hb1⟩
        have HZ1 := Lib.hid (HZ0.out.below hb1)
        obtain ⟨c0, c1, c2, f0, f1, f2⟩ := HZ1.out.z
        clear hb1
        go_wp2
        refine bodyPost_ret (v := .agg #[.slice none 0 0, .slice none 0 0, .int .i64 1]) (by simp [results, Try.results22, go_sem, c0, c1, c2]) rfl ?_
        rw [HE.out]
        exact ⟨none, 0, none, 0, rfl, OwnN.nil _ _, OwnI.nil _ _ _ _, (fun k e => by cases e), ((HZ1.out.p.bel.setCell (by simp) _).setCell (by simp) _).setCell (by simp) _⟩
      · have hd2 : decide ((14 : Int) < (rs.length : Int)) = false := decide_eq_false (by omega)
        have HS6 : Hid (rs.all (fun r => thereN l.length r) = false → sweepO l rs = (6, [], [])) := by
          show _ → _
          intro ha
          rw [sweepO, if_neg h4, hr, decide_eq_true (show rs.length ≤ 14 by omega), ha]
          rfl
        have HS0 : Hid (rs.all (fun r => thereN l.length r) = true → sweepO l rs = (0, (sweepTo l (needA l (rs.map Int.toNat)) l.length).1, rs.map fun r => (sweepTo l (needA l (rs.map Int.toNat)) l.length).2.getD r.toNat 0)) := by
          show _ → _
          intro ha
          rw [sweepO, if_neg h4, hr, decide_eq_true (show rs.length ≤ 14 by omega), ha]
          rfl
        have HR := Lib.hid hr
        have hTh := fun x w => pThere_any A l.length c x w
        have hr14 : rs.length ≤ 14 := by omega
        clear h4 hr h14
        go_enter Try.func22, Try.ntmps22
        go_wp2_with fail
        refine (hPR _ HZ0.out.p.rn).mono ?_
        rintro e w1 ⟨rfl, hb1⟩
        have HZ1 := Lib.hid (HZ0.out.below hb1)
        clear hb1 HZ0 hPR
        go_wp2
        go_loop [27] (fun i => ∃ k : Nat, i = .int .i64 k ∧ k ≤ rs.length ∧ Hid ((rs.take k).all (fun r => thereN l.length r) = true)) (fun i => rs.length - (intOf i).toNat)
        case atStart => exact ⟨0, rfl, Nat.zero_le _, by simp [Hid]⟩
        case round =>
          obtain ⟨k, rfl, hk, HA⟩ := hrel
          have p0 := HZ1.out.p.c0
          by_cases hlt : k < rs.length
          · have hkI : (k : Int) < (rs.length : Int) := by omega
            obtain ⟨b, off, rfl, hbl, hcs⟩ := HZ1.out.ri.at_ hlt
            have HSTEP : Hid (thereN l.length rs[k] = true → (rs.take (k + 1)).all (fun r => thereN l.length r) = true) := by
              show _ → _
              intro h
              rw [List.take_succ_eq_append_getElem hlt, List.all_append, HA.out]
              simp [h]
            have HBAD : Hid (thereN l.length rs[k] = false → rs.all (fun r => thereN l.length r) = false) := by
              show _ → _
              intro h
              rw [← Bool.not_eq_true]
              intro ha
              simp only [List.all_eq_true] at ha
              have := ha rs[k] (List.getElem_mem hlt)
              rw [h] at this
              cases this
            generalize rs[k] = x at *
            have hTx := hTh x
            cases ht : thereN l.length x
            · rw [ht] at hTx
              have HE := Lib.hid (HS6.out (HBAD.out ht))
              obtain ⟨c0, c1, c2, f0, f1, f2⟩ := HZ1.out.z
              clear ht hTh
              go_wp2_with fail
              refine (hTx _).mono ?_
              rintro e w2 ⟨rfl, rfl⟩
              go_wp2
              refine bodyPost_ret (v := .agg #[.slice none 0 0, .slice none 0 0, .int .i64 6]) (by simp [results, Try.results22, go_sem, c0, c1, c2]) rfl ?_
              rw [HE.out]
              exact ⟨none, 0, none, 0, rfl, OwnN.nil _ _, OwnI.nil _ _ _ _, (fun k e => by cases e), ((HZ1.out.p.bel.setCell (by simp) _).setCell (by simp) _).setCell (by simp) _⟩
            · rw [ht] at hTx
              have HS := Lib.hid (HSTEP.out ht)
              clear ht hTh
              go_wp2_with fail
              refine (hTx _).mono ?_
              rintro e w2 ⟨rfl, rfl⟩
              go_wp2
              go_round
              case rel => exact ⟨k + 1, by go_num, by omega, HS⟩
              case measure => simp [intOf]; omega
          · have hall : rs.all (fun r => thereN l.length r) = true := by
              have e : rs.take k = rs := List.take_of_length_le (by omega)
              have := HA.out
              rw [e] at this
              exact this
            have HE := Lib.hid (HS0.out hall)
            obtain ⟨hrn1, hrn2⟩ := all_there hall
            obtain ⟨rn, hrn⟩ : ∃ rn, rn = rs.map Int.toNat := ⟨_, rfl⟩
            rw [← hrn] at hrn1 hrn2 HE
            have HRL : Hid (rn.length = rs.length) := by show _ = _; rw [hrn]; simp
            have HRN1 := Lib.hid hrn1
            have HRN2 := Lib.hid hrn2
            have hkI : ¬ (k : Int) < (rs.length : Int) := by omega
            have HBD : Hid (∀ x ∈ rs, 0 ≤ x ∧ x < (l.length : Int)) := by
              show ∀ x ∈ rs, _
              intro x hx
              simp only [List.all_eq_true] at hall
              have := hall x hx
              simp [thereN, inIs] at this
              omega
            clear hall hrn hrn1 hrn2 HS0 HS6 hTh HA
            have hNeed : ∀ W, Zw w A c l B rs W → Calls Try.prog 36 #[.slice A l.length c, .slice B rs.length cb] W fun e w' => e = .returned (.slice (some ⟨W.heap.size, 0, none⟩) l.length l.length) ∧ OwnB w' W.heap.size (.slice (some ⟨W.heap.size, 0, none⟩) l.length l.length) (needA l rn) ∧ Below W.heap.size W w' := by
              intro W hz
              have h9 := pNeeded_any A c l B cb rn W hz.p.rn HR.out (by rw [← HRN1.out]; exact hz.ri.mono (Nat.le_of_lt hz.p.siz)) HRN2.out (by rw [HRL.out]; omega)
              rw [HRL.out] at h9
              exact h9
            have hdd : Below w1.heap.size w1 w1.drew := (Below.refl _ _).drew
            have HZd := Lib.hid (HZ1.out.below hdd)
            clear hdd
            go_wp2_with fail
            go_region_with
              (first
                | (go_at_call 47; refine (pSwept_any A c w1.heap.size w1.heap.size l.length l (needA l rn) w3 HZ3.out.p.rn HR.out HO3.out).mono ?_; rintro e w4 ⟨A1, c1, rfl, hp4⟩; have HP4 := Lib.hid hp4; have HZ4 := Lib.hid (HZ3.out.below hp4.bel); clear hp4)
                | (go_at_call 36; refine (hNeed w1.drew HZd.out).mono ?_; rintro e w3 ⟨rfl, ho3, hb3⟩; have HO3 : Hid (OwnB w3 w1.heap.size (.slice (some ⟨w1.heap.size, 0, none⟩) l.length l.length) (needA l rn)) := ho3; have HZ3 := Lib.hid (HZd.out.below hb3); have p3 := HZ3.out.p.c0; clear ho3 hb3))
            all_goals
              generalize hres : sweepTo l (needA l rn) l.length = RES at *
              obtain ⟨u, T⟩ := RES
              have hTl : T.length = l.length := by have := (sweepTo_len l (needA l rn) l.length).2; rw [hres] at this; exact this
              have HTL := Lib.hid hTl
              have h200 := pool_len HR.out
              simp only at HP4 HE
              obtain ⟨j0, hji, hj0, hj1, hj2⟩ := info_parts Try.infoInt
              have HS5 := Lib.hid (S3.made w4 (.slice A1 u.length c1) (.slice none 0 0) 0 48)
              have HB5 : Hid (Below w4.heap.size w4 (w4.alloc (.cells #[.slice A1 u.length c1, .slice none 0 0, .int .i64 0] 48))) := (Below.refl _ _).alloc (Nat.le_refl _) _
              have hz5 : w4.heap.size < (w4.alloc (.cells #[.slice A1 u.length c1, .slice none 0 0, .int .i64 0] 48)).heap.size := by simp
              clear hres hTl
              go_wp2
              generalize w4.alloc (.cells #[.slice A1 u.length c1, .slice none 0 0, .int .i64 0] 48) = w5 at *
              go_loopw [53] (fun i wr => ∃ (k : Nat) (A2 : Option Addr) (c2 : Nat) (R : List Int), i = .int .i64 k ∧ k ≤ rs.length ∧ S3 wr w4.heap.size (.slice A1 u.length c1) (.slice A2 R.length c2) 0 ∧ OwnI 2 .i64 wr (w4.heap.size + 1) (.slice A2 R.length c2) R ∧ Below w4.heap.size w4 wr ∧ w4.heap.size < wr.heap.size ∧ Hid (R = (rs.take k).map fun r => T.getD r.toNat 0)) (fun i _ => rs.length - (intOf i).toNat)
              case atStart => exact ⟨0, none, 0, [], rfl, Nat.zero_le _, HS5.out, OwnI.nil _ _ _ _, HB5.out, hz5, rfl⟩
              case round =>
                obtain ⟨k2, A2, c2, R, rfl, hk2, hs3, how, hb, hz, HRR⟩ := hrel
                have HO := Lib.hid how
                have HB := Lib.hid hb
                have HS := Lib.hid hs3
                have HZ := Lib.hid (HZ4.out.below hb)
                have hz4 := HZ4.out.siz
                clear HS5 HB5 hz5
                obtain ⟨y0, y1, y2, e0, e1, e2⟩ := hs3
                by_cases hlt2 : k2 < rs.length
                · have hkI2 : (k2 : Int) < (rs.length : Int) := by omega
                  have hbd := HBD.out rs[k2] (List.getElem_mem hlt2)
                  obtain ⟨b, off, rfl, hbl, hcs⟩ := HZ.out.ri.at_ hlt2
                  have HNX : Hid ((rs.take (k2 + 1)).map (fun r => T.getD r.toNat 0) = R ++ [T.getD rs[k2].toNat 0]) := by
                    show _ = _
                    rw [List.take_succ_eq_append_getElem hlt2, List.map_append, ← HRR.out]
                    rfl
                  generalize rs[k2] = x at *
                  obtain ⟨r, rfl⟩ := Int.eq_ofNat_of_zero_le hbd.1
                  have hrT : r < T.length := by rw [HTL.out]; omega
                  obtain ⟨g9, e9, _, _, ct, _⟩ := (HP4.out.keep hb).nm.at_ hrT
                  cases e9
                  have hv : T.getD (r : Int).toNat 0 = T[r] := by simp [List.getD, hrT]
                  rw [hv] at HNX
                  generalize T[r] = v at *
                  have hRl : R.length ≤ 14 := by rw [HRR.out, List.length_map, List.length_take]; omega
                  have q0 : (0 : Int) ≤ (r : Int) := by omega
                  have q1 : (r : Int) < (l.length : Int) := hbd.2
                  have hw3 : w3.heap.size < w4.heap.size := HP4.out.lt
                  have hw3r : w3.heap.size < wr.heap.size := by omega
                  have hbr : b < wr.heap.size := by have := HZ.out.p.siz; omega
                  have HA := Lib.hid (how.alloc (.cells #[.int .i64 v] 2)).drew
                  have HX : Hid (∀ j (h : j < [v].length), (wr.alloc (.cells #[.int .i64 v] 2)).drew.cell? ⟨wr.heap.size, 0 + j, none⟩ = some (.int .i64 [v][j])) := by
                    show ∀ j (h : j < [v].length), _
                    intro j hj
                    obtain rfl : j = 0 := by simpa using hj
                    simp [go_sem]
                  have hab : Below wr.heap.size wr (wr.alloc (.cells #[.int .i64 v] 2)).drew := ((Below.refl _ _).alloc (Nat.le_refl _) _).drew
                  have HAB := Lib.hid hab
                  have HS3 := Lib.hid (HS.out.below hab hz)
                  obtain ⟨g0, g1, g2, g3, g4, g5⟩ := HS3.out
                  have hnw : ¬ w4.heap.size = wr.heap.size := by omega
                  clear hab how hb hv hbd
                  go_wp2_with fail
                  go_region_law ((refine step_append_ints Try.underlying33 hji hj0 hj1 hj2 (by decide) (by rfl) _ _ (by rfl) (w4.heap.size + 1) _ _ [v] _ wr.heap.size 0 1 HA.out (by rfl) (by rfl) HX.out (Nat.zero_lt_one) (by simp <;> omega) (by simp <;> omega) ?_; intro g cap w6 hown6 hb6; obtain ⟨p0', p1', p2', q0', q1', q2'⟩ := HS3.out.below hb6 (by omega)))
                  all_goals
                    have HS6 := Lib.hid ((HS3.out.below hb6 (Nat.lt_succ_self _)).set1 (.slice (some ⟨g, 0, none⟩) (R.length + [v].length) cap))
                    have HO6 := Lib.hid (OwnI.set_below (a := ⟨w4.heap.size, 1, none⟩) (by show w4.heap.size < _; omega) (.slice (some ⟨g, 0, none⟩) (R.length + [v].length) cap) hown6)
                    have HB6 := Lib.hid ((HB.out.trans ((HAB.out.mono (Nat.le_of_lt hz)).trans (hb6.mono (Nat.le_succ _)))).setCell (p := ⟨w4.heap.size, 1, none⟩) (Nat.le_refl _) (.slice (some ⟨g, 0, none⟩) (R.length + [v].length) cap))
                    have hz6 : w4.heap.size < w6.heap.size := by have := hb6.size; simp at this; omega
                    clear hown6 hb6 y0 y1 y2 e0 e1 e2 g0 g1 g2 g3 g4 g5
                    go_wp2
                    go_roundw
                    case rel =>
                      refine ⟨k2 + 1, some ⟨g, 0, none⟩, cap, R ++ [v], by go_num, by omega, ?_, ?_, HB6.out, by simpa [World.setCell] using hz6, ?_⟩
                      · rw [List.length_append]; exact HS6.out
                      · rw [List.length_append]; exact HO6.out
                      · show _ = _
                        rw [HNX.out]
                    case measure => simp [intOf]; omega
                · have hkI2 : ¬ (k2 : Int) < (rs.length : Int) := by omega
                  have HRE : Hid (R = rs.map fun r => T.getD r.toNat 0) := by
                    have e : rs.take k2 = rs := List.take_of_length_le (by omega)
                    have := HRR.out
                    rw [e] at this
                    exact this
                  obtain ⟨c0, c1', c2', f0, f1, f2⟩ := HZ.out.z
                  have HN := Lib.hid (HP4.out.keep hb).own
                  have HLT := Lib.hid HP4.out.own.lt
                  have HLI := Lib.hid (World.ownsRow.lt how)
                  have hw3 : w.heap.size + 1 < w3.heap.size := HZ3.out.siz
                  clear how hb
                  go_wp2
                  refine bodyPost_ret (v := .agg #[.slice A1 u.length c1, .slice A2 R.length c2, .int .i64 0]) (by simp [results, Try.results22, go_sem, c0, c1', c2']) rfl ?_
                  rw [HE.out, ← HRE.out]
                  refine ⟨A1, c1, A2, c2, rfl, ?_, ?_, fun k9 e9 e8 => ?_, ((HZ.out.p.bel.setCell (by simp) _).setCell (by simp) _).setCell (by simp) _⟩
                  · exact OwnN.lower (base := w3.heap.size + 1) (by omega) (OwnN.set_below (by show w.heap.size + 1 < _; omega) _ (OwnN.set_below (by show w.heap.size + 1 < _; omega) _ (OwnN.set_below (by show w.heap.size + 1 < _; omega) _ HN.out)))
                  · exact OwnI.lower (base := w4.heap.size + 1) (by omega) (OwnI.set_below (by show w.heap.size + 1 < _; omega) _ (OwnI.set_below (by show w.heap.size + 1 < _; omega) _ (OwnI.set_below (by show w.heap.size + 1 < _; omega) _ HO.out)))
                  · have i1 := (HLT.out k9 e9).2
                    have i2 := (HLI.out k9 e8).1
                    omega
end Go.Proofs.Ytoobkajilbmdhaa
