/- The program's heights. -/
import Derived.Test.YtoobkajilbmdhaaDoorHt
import Derived.Test.YtoobkajilbmdhaaDoorPgQ
namespace Go.Proofs.YtoobkajilbmdhaaDoor
open Go.RowKit
set_option linter.unusedVariables false

/-- The greatest of the first m heights, each and 1. -/
def upTo (va vb vc vd : Int) : Nat → Int
  | 0 => 0
  | 1 => max 0 (va + 1)
  | 2 => max (max 0 (va + 1)) (vb + 1)
  | 3 => max (max (max 0 (va + 1)) (vb + 1)) (vc + 1)
  | _ => max (max (max (max 0 (va + 1)) (vb + 1)) (vc + 1)) (vd + 1)
theorem right_sp {l : List Nd} (h : poolRight l = true) {k : Nat} (hk : k < l.length) : leafN l[k] = !isSp l[k] := ok_leaf (right_node h hk)

set_option maxRecDepth 100000 in
set_option maxHeartbeats 2000000 in
theorem pHeightOf_any (A : Option Addr) (c : Nat) (l : List Nd) (nk : Nat) (w : World) (h : RN w w.heap.size A l) (hr : poolRight l = true) (hnk : nk < l.length) :
    Calls Tryd.prog 66 #[.slice A l.length c, .int .i64 nk] w fun e w' => e = .returned (.int .i64 ((hts l).getD nk 0)) ∧ Below w.heap.size w w' := by
  obtain ⟨i0, hi, hz0, hz1, hz2⟩ := info_parts Tryd.infoInt
  have hl := pool_len hr
  have HR := Lib.hid hr
  have H := Lib.hid h
  clear h hr
  have hw1 : wrap64 ((nk : Int) + 1) = ((nk + 1 : Nat) : Int) := by rw [wrap64_in (by omega) (by omega)]; omega
  go_enter Tryd.func66, Tryd.ntmps66
  go_wp2_with (at_make; refine wpList_make_full _ rfl _ _ 26 rfl w.heap.size 2 i0 (.int .i64 0) 1 Tryd.underlying26 hi hz0 hz1 .i64 .i64 _ _ (nk + 1) rfl rfl (by go_num) (by go_num) ?b2 ?b3 (Nat.le_refl _) ?_)
  case b2 => rw [hz2]; omega
  case b3 => unfold maxLen; omega
  intro w1 hown1 hgrow1
  have ho1 := own_zeros hown1
  have hb1 : Below w.heap.size w w1 := (Below.refl _ _).grown hgrow1 (Nat.le_refl _) (fun k hk => by cases hk)
  clear hown1 hgrow1
  go_wp2
  have HO1 := Lib.hid ho1
  have HB1 := Lib.hid hb1
  clear ho1 hb1
  go_loopw [14] (fun i wr => ∃ j : Nat, i = .int .i64 j ∧ j ≤ nk + 1 ∧ OwnI 2 .i64 wr w.heap.size (.slice (some ⟨w.heap.size, 0, none⟩) (nk + 1) (nk + 1)) (hts (l.take j) ++ List.replicate (nk + 1 - j) 0) ∧ Below w.heap.size w wr) (fun i _ => nk + 1 - (intOf i).toNat)
  case atStart => exact ⟨0, rfl, Nat.zero_le _, by simpa [hts] using HO1.out, HB1.out⟩
  case round =>
    obtain ⟨j, rfl, hj, how, hb⟩ := hrel
    have HO := Lib.hid how
    have HB := Lib.hid hb
    clear HO1 HB1
    by_cases hlt : j < nk + 1
    · have hjl : j < l.length := by omega
      obtain ⟨b, off, rfl, hbl, hn⟩ := (H.out.below hb).at_ hjl
      have hok := right_node HR.out hjl
      have hsp := right_sp HR.out hjl
      have HST := Lib.hid (hts_take hjl)
      have HLT := Lib.hid (hts_len_take l j (by omega))
      have HBD := Lib.hid (hts_bound_take l j (by omega))
      clear how hb
      generalize hts (l.take j) = hs at *
      generalize hnk2 : l[j] = n at hn hok HST hsp
      clear hnk2
      have hS := pSplit_any n
      rw [show nk + 1 - j = (nk - j) + 1 by omega, List.replicate_succ] at HO
      have j0 : (0 : Int) ≤ (j : Int) := by omega
      have j1 : (j : Int) < (l.length : Int) := by omega
      have j2 : (j : Int) < (nk : Int) + 1 := by omega
      cases hlf : isSp n
      · rw [hlf] at hS hsp
        have HV := Lib.hid (show hStep hs n = 0 by simp [hStep, hsp])
        rw [HV.out] at HST
        clear hok hlf HV hsp
        obtain ⟨nt, na, nb, nc, nd⟩ := n
        unfold Nd.val at hS
        obtain ⟨d0, d1, d2, d3, d4⟩ := hn
        simp only at d0 d1 d2 d3 d4 hS
        go_wp2_with fail
        refine (hS _).mono ?_
        rintro e w2 ⟨rfl, hb2⟩
        have HB2 := Lib.hid (HB.out.trans (hb2.mono HB.out.size))
        have HO2 := Lib.hid (HO.out.keep hb2)
        clear hb2
        go_wp2
        go_roundw
        case rel => exact ⟨j + 1, by go_num, by omega, by rw [HST.out, show nk + 1 - (j + 1) = nk - j by omega, List.append_assoc]; exact HO2.out, HB2.out⟩
        case measure => simp [intOf]; omega
      · rw [hlf] at hS hsp
        obtain ⟨q0, qa, qb, qc, qd⟩ := ok_split hok hsp
        clear q0
        have HV := (show hStep hs n = 1 + max (max (hs.getD n.a.toNat 0) (hs.getD n.b.toNat 0)) (max (hs.getD n.c.toNat 0) (hs.getD n.d.toNat 0)) by simp [hStep, hsp])
        have hQ := pQuarters_any n
        clear hok hlf hsp
        obtain ⟨nt, na, nb, nc, nd⟩ := n
        simp only at qa qb qc qd HV
        obtain ⟨ia, rfl⟩ := Int.eq_ofNat_of_zero_le qa.1
        obtain ⟨ib, rfl⟩ := Int.eq_ofNat_of_zero_le qb.1
        obtain ⟨ic, rfl⟩ := Int.eq_ofNat_of_zero_le qc.1
        obtain ⟨id, rfl⟩ := Int.eq_ofNat_of_zero_le qd.1
        unfold Nd.val at hS hQ
        unfold qV at hQ
        obtain ⟨d0, d1, d2, d3, d4⟩ := hn
        simp only at d0 d1 d2 d3 d4 hS hQ
        simp only [Int.toNat_natCast] at HV
        have hbd : ∀ i : Nat, i < j → 0 ≤ hs.getD i 0 ∧ hs.getD i 0 ≤ j := fun i hi => by
          rw [show hs.getD i 0 = hs[i]'(by rw [HLT.out]; exact hi) by simp [List.getD, HLT.out, hi]]
          exact HBD.out _ (List.getElem_mem _)
        have ba := hbd ia (by omega)
        have bb := hbd ib (by omega)
        have bc := hbd ic (by omega)
        have bd := hbd id (by omega)
        clear hbd
        generalize hva : hs.getD ia 0 = va at *
        generalize hvb : hs.getD ib 0 = vb at *
        generalize hvc : hs.getD ic 0 = vc at *
        generalize hvd : hs.getD id 0 = vd at *
        have HVV : Hid (hStep hs ⟨nt, ia, ib, ic, id⟩ = upTo va vb vc vd 4) := by show _ = _; rw [HV]; simp only [upTo]; omega
        clear HV
        rw [HVV.out] at HST
        clear HVV
        go_wp2_with fail
        refine (hS _).mono ?_
        rintro e w2 ⟨rfl, hb2⟩
        have HB2 := Lib.hid (HB.out.trans (hb2.mono HB.out.size))
        have HO2 := Lib.hid (HO.out.keep hb2)
        have hh := fun o => hb2.cell (p := ⟨b, off + j * 5 + o, none⟩) (show b < wr.heap.size from Nat.lt_of_lt_of_le hbl HB.out.size)
        have d0' := (hh 0).trans d0
        have d1' := (hh 1).trans d1
        have d2' := (hh 2).trans d2
        have d3' := (hh 3).trans d3
        have d4' := (hh 4).trans d4
        simp only [Nat.add_zero] at d0'
        clear hb2 hh d0 d1 d2 d3 d4
        go_wp2_with fail
        refine (hQ _).mono ?_
        rintro e w3 ⟨rfl, hb3⟩
        have HB3 := Lib.hid (HB2.out.trans (hb3.mono HB2.out.size))
        have HO3 := Lib.hid (HO2.out.keep hb3)
        clear hb3 d0' d1' d2' d3' d4'
        go_wp2
        go_loopw [28] (fun i wr => ∃ m : Nat, i = .int .i64 m ∧ m ≤ 4 ∧ OwnI 2 .i64 wr w.heap.size (.slice (some ⟨w.heap.size, 0, none⟩) (nk + 1) (nk + 1)) (hs ++ upTo va vb vc vd m :: List.replicate (nk - j) 0) ∧ Below w.heap.size w wr) (fun i _ => 4 - (intOf i).toNat)
        case atStart => exact ⟨0, rfl, Nat.zero_le _, HO3.out, HB3.out⟩
        case round =>
          obtain ⟨m, rfl, hm, how, hb⟩ := hrel
          have HO4 := Lib.hid how
          have HB4 := Lib.hid hb
          clear how hb
          by_cases hm4 : m = 4
          · subst hm4
            go_wp2
            go_roundw
            case rel => exact ⟨j + 1, by go_num, by omega, by rw [HST.out, show nk + 1 - (j + 1) = nk - j by omega, List.append_assoc]; exact HO4.out, HB4.out⟩
            case measure => simp [intOf]; omega
          · have hcells : ∀ q : Nat, q < j → wr.cell? ⟨w.heap.size, j, none⟩ = some (.int .i64 (upTo va vb vc vd m)) ∧ wr.cell? ⟨w.heap.size, q, none⟩ = some (.int .i64 (hs.getD q 0)) := by
              intro q hq
              have hll := HO4.out.len
              obtain ⟨g, e, _, _, c1, _⟩ := HO4.out.at_ (j := j) (by rw [← hll]; exact hlt)
              cases e
              obtain ⟨g, e, _, _, c2, _⟩ := HO4.out.at_ (j := q) (by rw [← hll]; omega)
              cases e
              refine ⟨by rw [c1, List.getElem_append_right (by rw [HLT.out]; exact Nat.le_refl _)]; simp [HLT.out], ?_⟩
              rw [c2, List.getElem_append_left (by rw [HLT.out]; exact hq)]
              simp [List.getD, HLT.out, hq]
            have hfz : wr.frozen? ⟨w.heap.size, j, none⟩ = false := by
              obtain ⟨g, e, _, _, _, hf⟩ := HO4.out.at_ (j := j) (by rw [← HO4.out.len]; exact hlt)
              cases e; exact hf
            have h4 : m = 0 ∨ m = 1 ∨ m = 2 ∨ m = 3 := by omega
            rcases h4 with rfl | rfl | rfl | rfl
            · have hix := index_quad0 ia ib ic id
              obtain ⟨cj, cq⟩ := hcells ia (by omega)
              rw [hva] at cq
              have hwq : wrap64 (va + 1) = va + 1 := wrap64_in (by omega) (by omega)
              have HS := Lib.hid (HO4.out.store (j := j) (if upTo va vb vc vd 0 < va + 1 then va + 1 else upTo va vb vc vd 0))
              have HUP : Hid (upTo va vb vc vd 1 = if upTo va vb vc vd 0 < va + 1 then va + 1 else upTo va vb vc vd 0) := by show _ = _; simp only [upTo]; omega
              have q0 : (0 : Int) ≤ ia := by omega
              have q1 : (ia : Int) < (nk : Int) + 1 := by omega
              clear hcells hva hvb hvc hvd
              generalize hup : upTo va vb vc vd 0 = up at *
              go_wp2_with fail
              go_region
              all_goals
                go_wp2
                go_roundw
                case rel => exact ⟨1, by go_num, by omega, by rw [HUP.out]; have h9 := HS.out.1; rw [List.set_append_right _ _ (by rw [HLT.out]; exact Nat.le_refl _), HLT.out, Nat.sub_self, List.set_cons_zero] at h9; exact h9, (HB4.out.setCell (Nat.le_refl _) _).drew⟩
                case measure => simp [intOf]
            · have hix := index_quad1 ia ib ic id
              obtain ⟨cj, cq⟩ := hcells ib (by omega)
              rw [hvb] at cq
              have hwq : wrap64 (vb + 1) = vb + 1 := wrap64_in (by omega) (by omega)
              have HS := Lib.hid (HO4.out.store (j := j) (if upTo va vb vc vd 1 < vb + 1 then vb + 1 else upTo va vb vc vd 1))
              have HUP : Hid (upTo va vb vc vd 2 = if upTo va vb vc vd 1 < vb + 1 then vb + 1 else upTo va vb vc vd 1) := by show _ = _; simp only [upTo]; omega
              have q0 : (0 : Int) ≤ ib := by omega
              have q1 : (ib : Int) < (nk : Int) + 1 := by omega
              clear hcells hva hvb hvc hvd
              generalize hup : upTo va vb vc vd 1 = up at *
              go_wp2_with fail
              go_region
              all_goals
                go_wp2
                go_roundw
                case rel => exact ⟨2, by go_num, by omega, by rw [HUP.out]; have h9 := HS.out.1; rw [List.set_append_right _ _ (by rw [HLT.out]; exact Nat.le_refl _), HLT.out, Nat.sub_self, List.set_cons_zero] at h9; exact h9, (HB4.out.setCell (Nat.le_refl _) _).drew⟩
                case measure => simp [intOf]
            · have hix := index_quad2 ia ib ic id
              obtain ⟨cj, cq⟩ := hcells ic (by omega)
              rw [hvc] at cq
              have hwq : wrap64 (vc + 1) = vc + 1 := wrap64_in (by omega) (by omega)
              have HS := Lib.hid (HO4.out.store (j := j) (if upTo va vb vc vd 2 < vc + 1 then vc + 1 else upTo va vb vc vd 2))
              have HUP : Hid (upTo va vb vc vd 3 = if upTo va vb vc vd 2 < vc + 1 then vc + 1 else upTo va vb vc vd 2) := by show _ = _; simp only [upTo]; omega
              have q0 : (0 : Int) ≤ ic := by omega
              have q1 : (ic : Int) < (nk : Int) + 1 := by omega
              clear hcells hva hvb hvc hvd
              generalize hup : upTo va vb vc vd 2 = up at *
              go_wp2_with fail
              go_region
              all_goals
                go_wp2
                go_roundw
                case rel => exact ⟨3, by go_num, by omega, by rw [HUP.out]; have h9 := HS.out.1; rw [List.set_append_right _ _ (by rw [HLT.out]; exact Nat.le_refl _), HLT.out, Nat.sub_self, List.set_cons_zero] at h9; exact h9, (HB4.out.setCell (Nat.le_refl _) _).drew⟩
                case measure => simp [intOf]
            · have hix := index_quad3 ia ib ic id
              obtain ⟨cj, cq⟩ := hcells id (by omega)
              rw [hvd] at cq
              have hwq : wrap64 (vd + 1) = vd + 1 := wrap64_in (by omega) (by omega)
              have HS := Lib.hid (HO4.out.store (j := j) (if upTo va vb vc vd 3 < vd + 1 then vd + 1 else upTo va vb vc vd 3))
              have HUP : Hid (upTo va vb vc vd 4 = if upTo va vb vc vd 3 < vd + 1 then vd + 1 else upTo va vb vc vd 3) := by show _ = _; simp only [upTo]; omega
              have q0 : (0 : Int) ≤ id := by omega
              have q1 : (id : Int) < (nk : Int) + 1 := by omega
              clear hcells hva hvb hvc hvd
              generalize hup : upTo va vb vc vd 3 = up at *
              go_wp2_with fail
              go_region
              all_goals
                go_wp2
                go_roundw
                case rel => exact ⟨4, by go_num, by omega, by rw [HUP.out]; have h9 := HS.out.1; rw [List.set_append_right _ _ (by rw [HLT.out]; exact Nat.le_refl _), HLT.out, Nat.sub_self, List.set_cons_zero] at h9; exact h9, (HB4.out.setCell (Nat.le_refl _) _).drew⟩
                case measure => simp [intOf]
    · have ej : j = nk + 1 := by omega
      subst ej
      have HLT := hts_len_take l (nk + 1) (by omega)
      obtain ⟨g, e, _, _, hc, _⟩ := how.at_ (j := nk) (by rw [← how.len]; omega)
      cases e
      have HV : Hid ((hts l).getD nk 0 = (hts (l.take (nk + 1)) ++ List.replicate (nk + 1 - (nk + 1)) 0)[nk]'(by rw [← how.len]; omega)) := by
        show _ = _
        rw [hts_at l (nk + 1) nk (by omega) (by omega), List.getElem_append_left (by omega)]
        simp [List.getD, HLT]
      rw [← HV.out] at hc
      clear how hb HV HLT
      have n1 : (nk : Int) < (nk : Int) + 1 := by omega
      go_wp2
      go_ret
      exact ⟨rfl, HB.out⟩

set_option maxRecDepth 100000 in
set_option maxHeartbeats 1000000 in
theorem pHeight_any (A : Option Addr) (c : Nat) (l : List Nd) (node : Int) (w : World) (h : RN w w.heap.size A l) (hl : l.length ≤ 1048576) (hc : l.length ≤ c) (hf : ∀ n ∈ l, n.Fits) :
    Calls Tryd.prog 22 #[.agg #[.slice A l.length c], .int .i64 node] w fun e w' => e = .returned (.int .i64 (heightN l node)) ∧ Below w.heap.size w w' := by
  have HP0 := Lib.hid (PB.made w A c l h)
  have hbw : Below w.heap.size w (w.alloc (.cells #[.slice A l.length c] 25)) := (Below.refl _ _).alloc (Nat.le_refl _) _
  have hPR := pPoolRight_any A c l (w.alloc (.cells #[.slice A l.length c] 25)) ((h.below hbw).mono (by simp)) hl hc hf
  clear h hf
  cases hr : poolRight l
  · rw [hr] at hPR
    have HR := Lib.hid hr
    clear hr
    go_enter Tryd.func22, Tryd.ntmps22
    go_wp2_with fail
    refine hPR.mono ?_
    rintro e w1 ⟨rfl, hb1⟩
    have HP1 := Lib.hid (HP0.out.below hb1)
    have c1 := HP1.out.c0
    clear hb1
    go_wp2
    go_ret
    exact ⟨ret_int (by simp [heightN, HR.out]), HP1.out.bel⟩
  · rw [hr] at hPR
    have HR := Lib.hid hr
    clear hr
    have hTh := fun w => pThere_any A l.length c node w
    cases ht : thereN l.length node
    · rw [ht] at hTh
      have HT := Lib.hid ht
      clear ht
      go_enter Tryd.func22, Tryd.ntmps22
      go_wp2_with fail
      refine hPR.mono ?_
      rintro e w1 ⟨rfl, hb1⟩
      have HP1 := Lib.hid (HP0.out.below hb1)
      have c1 := HP1.out.c0
      clear hb1
      go_wp2_with fail
      refine (hTh _).mono ?_
      rintro e w2 ⟨rfl, rfl⟩
      go_wp2
      go_ret
      exact ⟨ret_int (by simp [heightN, HT.out]), HP1.out.bel⟩
    · rw [ht] at hTh
      have HT := Lib.hid ht
      have h2 : 0 ≤ node ∧ node < l.length := by simp [thereN, inIs] at ht; omega
      obtain ⟨k, rfl⟩ := Int.eq_ofNat_of_zero_le h2.1
      have hk : k < l.length := by omega
      clear ht h2
      have HV : Hid ((hts l).getD k 0 = heightN l k) := by show _ = _; rw [heightN, HR.out, HT.out]; simp
      go_enter Tryd.func22, Tryd.ntmps22
      go_wp2_with fail
      refine hPR.mono ?_
      rintro e w1 ⟨rfl, hb1⟩
      have HP1 := Lib.hid (HP0.out.below hb1)
      have c1 := HP1.out.c0
      clear hb1
      go_wp2_with fail
      refine (hTh _).mono ?_
      rintro e w2 ⟨rfl, rfl⟩
      go_wp2_with fail
      refine (pHeightOf_any A c l k w1 HP1.out.rn HR.out hk).mono ?_
      rintro e w3 ⟨rfl, hb3⟩
      have HP3 := Lib.hid (HP1.out.below hb3)
      clear hb3 c1
      go_wp2
      go_ret
      exact ⟨ret_int HV.out, HP3.out.bel⟩
end Go.Proofs.YtoobkajilbmdhaaDoor
