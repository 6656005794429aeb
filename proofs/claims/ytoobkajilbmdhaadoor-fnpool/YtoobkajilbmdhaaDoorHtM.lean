/- The model's heights. -/
import Derived.Test.YtoobkajilbmdhaaDoorHt
import Derived.Test.YtoobkajilbmdhaaDoorGridN
import Derived.Deep.QuietTactic
import Derived.BigQuiet
namespace Go.Proofs.YtoobkajilbmdhaaDoor
open Go.RowKit
set_option linter.unusedVariables false

theorem PB.below1 {w : World} {A : Option Addr} {c : Nat} {l : List Nd} {wr wr' : World} (h : PB w A c l wr) (hb : Below (w.heap.size + 1) wr wr') : PB w A c l wr' :=
  ⟨(hb.cell (p := ⟨w.heap.size, 0, none⟩) (Nat.lt_succ_self _)).trans h.c0, h.ri.below (hb.mono (Nat.le_succ _)), h.bel.trans (hb.mono (Nat.le_succ _)), Nat.lt_of_lt_of_le h.siz hb.size⟩
set_option maxRecDepth 100000 in
set_option maxHeartbeats 1000000 in
theorem mHeights_any (A : Option Addr) (c : Nat) (l : List Nd) (w : World) (h : RN w w.heap.size A l) (hr : poolRight l = true) :
    Calls Tryd.prog 68 #[.agg #[.slice A l.length c]] w fun e w' => ∃ A' c', e = .returned (.slice A' l.length c') ∧ OwnI 2 .i64 w' w.heap.size (.slice A' l.length c') (hts l) ∧ Below w.heap.size w w' := by
  obtain ⟨i0, hi, hz0, hz1, hz2⟩ := info_parts Tryd.infoInt
  have hl := pool_len hr
  have HR := Lib.hid hr
  have HP0 := Lib.hid (PB.made w A c l h)
  clear h hr
  go_enter Tryd.func68, Tryd.ntmps68
  go_wp2
  have HO0 := Lib.hid (OwnI.lit (e := 2) (k := .i64) (w := w.alloc (.cells #[.slice A l.length c] 25)) (base := w.heap.size + 1) [] (by simp) (by simp [maxLen]))
  have HP1 := Lib.hid (HP0.out.below ((Below.refl _ _).alloc (Nat.le_refl _) (.cells #[] 2)))
  go_loopw [3, 4] (fun v i wr => ∃ (k : Nat) (A' : Option Addr) (c' : Nat), i = .int .i64 k ∧ v = .slice A' k c' ∧ k ≤ l.length ∧ PB w A c l wr ∧ OwnI 2 .i64 wr (w.heap.size + 1) (.slice A' k c') (hts (l.take k))) (fun _ i _ => l.length - (intOf i).toNat)
  case atStart => exact ⟨0, _, _, rfl, rfl, Nat.zero_le _, HP1.out, by simpa [hts] using HO0.out⟩
  case round =>
    obtain ⟨k, A', c', rfl, rfl, hk, hpb, how⟩ := hrel
    have HPB := Lib.hid hpb
    have HOW := Lib.hid how
    have c0 := hpb.c0
    clear HO0 HP1 HP0
    by_cases hlt : k < l.length
    · have hsz := hpb.siz
      obtain ⟨b, off, rfl, hbl, hn⟩ := hpb.ri.at_ hlt
      have hok := right_node HR.out hlt
      have HST := Lib.hid (hts_take hlt)
      have HLT := Lib.hid (hts_len_take l k (by omega))
      have HBD := Lib.hid (hts_bound_take l k (by omega))
      clear hpb how
      generalize hts (l.take k) = hs at *
      generalize hnk : l[k] = n at hn hok HST
      clear hnk
      have hLf := mLeaf_any n
      cases hlf : leafN n
      · obtain ⟨q0, qa, qb, qc, qd⟩ := ok_split hok hlf
        clear q0
        rw [hlf] at hLf
        have HV := (show hStep hs n = 1 + max (max (hs.getD n.a.toNat 0) (hs.getD n.b.toNat 0)) (max (hs.getD n.c.toNat 0) (hs.getD n.d.toNat 0)) by simp [hStep, hlf])
        have hSB := hStep_bound HBD.out n
        clear hok hlf
        obtain ⟨nt, na, nb, nc, nd⟩ := n
        simp only at qa qb qc qd HV
        obtain ⟨ia, rfl⟩ := Int.eq_ofNat_of_zero_le qa.1
        obtain ⟨ib, rfl⟩ := Int.eq_ofNat_of_zero_le qb.1
        obtain ⟨ic, rfl⟩ := Int.eq_ofNat_of_zero_le qc.1
        obtain ⟨id, rfl⟩ := Int.eq_ofNat_of_zero_le qd.1
        unfold Nd.val at hLf
        obtain ⟨d0, d1, d2, d3, d4⟩ := hn
        simp only at d0 d1 d2 d3 d4 hLf
        simp only [Int.toNat_natCast] at HV
        generalize hStep hs ⟨nt, ia, ib, ic, id⟩ = hv at HV hSB HST
        generalize hva : hs.getD ia 0 = va at *
        generalize hvb : hs.getD ib 0 = vb at *
        generalize hvc : hs.getD ic 0 = vc at *
        generalize hvd : hs.getD id 0 = vd at *
        have hba : Below wr.heap.size wr (wr.alloc (.cells #[.int .i64 nt, .int .i64 ia, .int .i64 ib, .int .i64 ic, .int .i64 id] 84)) := (Below.refl _ _).alloc (Nat.le_refl _) _
        have hx0 : NdAt (wr.alloc (.cells #[.int .i64 nt, .int .i64 ia, .int .i64 ib, .int .i64 ic, .int .i64 id] 84)) wr.heap.size 0 ⟨nt, ia, ib, ic, id⟩ := ⟨by simp [go_sem], by simp [go_sem], by simp [go_sem], by simp [go_sem], by simp [go_sem]⟩
        have HX := Lib.hid hx0
        have HBA := Lib.hid hba
        clear hx0 hba
        go_wp2_with fail
        refine (hLf _).mono ?_
        rintro e w1 ⟨rfl, hb1⟩
        have hbz := HBA.out.trans (hb1.mono HBA.out.size)
        have HP1 := Lib.hid (HPB.out.below hbz)
        have HO1 := Lib.hid (HOW.out.keep hbz)
        have HX1 := Lib.hid (HX.out.keep (hb1.block wr.heap.size (by simp)))
        have hzz : wr.heap.size < w1.heap.size := by have := hb1.size; simp at this; omega
        clear hb1 hbz
        have hat : ∀ i : Nat, i < k → ∃ g, A' = some ⟨g, 0, none⟩ ∧ w1.cell? ⟨g, i, none⟩ = some (.int .i64 (hs.getD i 0)) := by
          intro i hi
          obtain ⟨g, e, _, _, hc, _⟩ := HO1.out.at_ (j := i) (by rw [HLT.out]; exact hi)
          exact ⟨g, e, by rw [hc]; simp [List.getD, HLT.out, hi]⟩
        obtain ⟨g, rfl, ca⟩ := hat ia (by omega)
        obtain ⟨g', e', cb⟩ := hat ib (by omega)
        cases e'
        obtain ⟨g', e', cc⟩ := hat ic (by omega)
        cases e'
        obtain ⟨g', e', cd⟩ := hat id (by omega)
        cases e'
        rw [hva] at ca
        rw [hvb] at cb
        rw [hvc] at cc
        rw [hvd] at cd
        clear hat hva hvb hvc hvd d0 d1 d2 d3 d4 c0
        obtain ⟨e0, e1, e2, e3, e4⟩ := HX1.out.five
        simp only at e0 e1 e2 e3 e4
        have hwr : wrap64 (1 + max va (max vb (max vc vd))) = hv := by rw [wrap64_in (by omega) (by omega)]; omega
        clear HV hSB
        have hM := fun x y w => (mMax_any x y w).mono (fun _ _ h => (⟨h.1, h.2.symm⟩ : _ ∧ _))
        have a0 : (0 : Int) ≤ ia := by omega
        have a1 : (ia : Int) < k := by omega
        have b0 : (0 : Int) ≤ ib := by omega
        have b1 : (ib : Int) < k := by omega
        have i0c : (0 : Int) ≤ ic := by omega
        have i1c : (ic : Int) < k := by omega
        have i0d : (0 : Int) ≤ id := by omega
        have i1d : (id : Int) < k := by omega
        go_wp2_with fail
        go_quiet (first | (go_at_call 102; refine Calls.quiet_of_same (hM _ _ _)))
        have hst : Still w1 (w1.drewN nq) := ⟨rfl, rfl, rfl, rfl⟩
        have HO2 := Lib.hid (HO1.out.still hst)
        have HP2 := Lib.hid (HP1.out.below (hst.below _))
        clear hst e0 e1 e2 e3 e4 ca cb cc cd hM
        generalize w1.drewN nq = W at *
        have hzW := HP2.out.siz
        have c2 := HP2.out.c0
        go_wp2_with (at_builtin; refine append_int Tryd.underlying26 hi hz0 hz1 hz2 (by decide) rfl _ _ rfl (w.heap.size + 1) _ hs hv _ HO2.out rfl rfl (by rw [HLT.out]; omega) (by omega) ?_; intro v' w2 hown2 hb2; obtain ⟨A2, c2', rfl⟩ := hown2.form; have HW2 := Lib.hid hown2; have HP3 := Lib.hid (HP2.out.below1 hb2); clear hown2 hb2)
        rw [← HST.out] at HW2
        have hl2 : (hts (l.take (k + 1))).length = k + 1 := hts_len_take l (k + 1) (by omega)
        go_wp2
        go_roundw
        case rel => exact ⟨k + 1, A2, c2', by go_num, by simp [HLT.out], by omega, HP3.out, by rw [hl2] at HW2; exact HW2.out⟩
        case measure => simp [intOf]; omega
      · rw [hlf] at hLf
        have HV := Lib.hid (show hStep hs n = 0 by simp [hStep, hlf])
        rw [HV.out] at HST
        clear hok hlf HV
        obtain ⟨nt, na, nb, nc, nd⟩ := n
        unfold Nd.val at hLf
        obtain ⟨d0, d1, d2, d3, d4⟩ := hn
        simp only at d0 d1 d2 d3 d4 hLf
        have hba : Below wr.heap.size wr (wr.alloc (.cells #[.int .i64 nt, .int .i64 na, .int .i64 nb, .int .i64 nc, .int .i64 nd] 84)) := (Below.refl _ _).alloc (Nat.le_refl _) _
        have hx0 : NdAt (wr.alloc (.cells #[.int .i64 nt, .int .i64 na, .int .i64 nb, .int .i64 nc, .int .i64 nd] 84)) wr.heap.size 0 ⟨nt, na, nb, nc, nd⟩ := ⟨by simp [go_sem], by simp [go_sem], by simp [go_sem], by simp [go_sem], by simp [go_sem]⟩
        have HX := Lib.hid hx0
        have HBA := Lib.hid hba
        clear hx0 hba
        go_wp2_with fail
        refine (hLf _).mono ?_
        rintro e w1 ⟨rfl, hb1⟩
        have hbz := HBA.out.trans (hb1.mono HBA.out.size)
        have HP1 := Lib.hid (HPB.out.below hbz)
        have HO1 := Lib.hid (HOW.out.keep hbz)
        have HX1 := Lib.hid (HX.out.keep (hb1.block wr.heap.size (by simp)))
        have hzz : wr.heap.size < w1.heap.size := by have := hb1.size; simp at this; omega
        clear hb1 hbz
        have HP2 := HP1
        have HO2 := HO1
        clear d0 d1 d2 d3 d4 c0
        have hzW := HP2.out.siz
        have c2 := HP2.out.c0
        go_wp2_with (at_builtin; refine append_int Tryd.underlying26 hi hz0 hz1 hz2 (by decide) rfl _ _ rfl (w.heap.size + 1) _ hs 0 _ HO2.out rfl rfl (by rw [HLT.out]; omega) (by omega) ?_; intro v' w2 hown2 hb2; obtain ⟨A2, c2', rfl⟩ := hown2.form; have HW2 := Lib.hid hown2; have HP3 := Lib.hid (HP2.out.below1 hb2); clear hown2 hb2)
        rw [← HST.out] at HW2
        have hl2 : (hts (l.take (k + 1))).length = k + 1 := hts_len_take l (k + 1) (by omega)
        go_wp2
        go_roundw
        case rel => exact ⟨k + 1, A2, c2', by go_num, by simp [HLT.out], by omega, HP3.out, by rw [hl2] at HW2; exact HW2.out⟩
        case measure => simp [intOf]; omega
    · have ek : k = l.length := by omega
      subst ek
      rw [List.take_length] at HOW
      clear how hpb
      go_wp2
      go_ret
      exact ⟨A', c', rfl, OwnI.lower (by omega) HOW.out, HPB.out.bel⟩

set_option maxRecDepth 100000 in
set_option maxHeartbeats 1000000 in
theorem mHeight_any (A : Option Addr) (c : Nat) (l : List Nd) (node : Int) (w : World) (h : RN w w.heap.size A l) (hl : l.length ≤ 1000000000) :
    Calls Tryd.prog 23 #[.agg #[.slice A l.length c], .int .i64 node] w fun e w' => e = .returned (.int .i64 (heightN l node)) ∧ Below w.heap.size w w' := by
  have HP0 := Lib.hid (PB.made w A c l h)
  have hbw : Below w.heap.size w (w.alloc (.cells #[.slice A l.length c] 25)) := (Below.refl _ _).alloc (Nat.le_refl _) _
  have hPR := mPoolRight_any A c l (w.alloc (.cells #[.slice A l.length c] 25)) ((h.below hbw).mono (by simp)) hl
  clear h
  cases hr : poolRight l
  · rw [hr] at hPR
    have HR := Lib.hid hr
    clear hr
    go_enter Tryd.func23, Tryd.ntmps23
    go_wp2_with fail
    refine hPR.mono ?_
    rintro e w1 ⟨rfl, hb1⟩
    have HP1 := Lib.hid (HP0.out.below hb1)
    have c1 := HP1.out.c0
    clear hb1
    go_wp2
    go_ret
    exact ⟨ret_int (by simp [heightN, HR.out]), HP1.out.bel⟩
  · rw [hr] at hPR
    have HR := Lib.hid hr
    clear hr
    have hTh := fun w => mThere_any A l.length c node w hl
    cases ht : thereN l.length node
    · rw [ht] at hTh
      have HT := Lib.hid ht
      clear ht
      go_enter Tryd.func23, Tryd.ntmps23
      go_wp2_with fail
      refine hPR.mono ?_
      rintro e w1 ⟨rfl, hb1⟩
      have HP1 := Lib.hid (HP0.out.below hb1)
      have c1 := HP1.out.c0
      clear hb1
      go_wp2_with fail
      refine (hTh _).mono ?_
      rintro e w2 ⟨rfl, hb2⟩
      have HP2 := Lib.hid (HP1.out.below hb2)
      clear hb2
      go_wp2
      go_ret
      exact ⟨ret_int (by simp [heightN, HT.out]), HP2.out.bel⟩
    · rw [ht] at hTh
      have HT := Lib.hid ht
      have h2 : 0 ≤ node ∧ node < l.length := by simp [thereN, inIs] at ht; omega
      obtain ⟨k, rfl⟩ := Int.eq_ofNat_of_zero_le h2.1
      have hk : k < l.length := by omega
      clear ht h2
      go_enter Tryd.func23, Tryd.ntmps23
      go_wp2_with fail
      refine hPR.mono ?_
      rintro e w1 ⟨rfl, hb1⟩
      have HP1 := Lib.hid (HP0.out.below hb1)
      have c1 := HP1.out.c0
      clear hb1
      go_wp2_with fail
      refine (hTh _).mono ?_
      rintro e w2 ⟨rfl, hb2⟩
      have HP2 := Lib.hid (HP1.out.below hb2)
      have c2 := HP2.out.c0
      clear hb2 c1
      go_wp2_with fail
      refine (mHeights_any A c l w2 HP2.out.rn HR.out).mono ?_
      rintro e w3 ⟨A', c', rfl, ho3, hb3⟩
      have HP3 := Lib.hid (HP2.out.below hb3)
      have hlen := hts_len l
      obtain ⟨g, rfl, _, _, hc, _⟩ := ho3.at_ (j := k) (by rw [hlen]; exact hk)
      have HV : Hid ((hts l)[k]'(by rw [hlen]; exact hk) = heightN l k) := by
        show _ = _
        rw [heightN, HR.out, HT.out]
        simp [List.getD, hlen, hk]
      rw [HV.out] at hc
      clear ho3 hb3 c2 HV hlen
      go_wp2
      go_ret
      exact ⟨rfl, HP3.out.bel⟩
end Go.Proofs.YtoobkajilbmdhaaDoor
