/- The program's pools: what a node may be. -/
import Derived.Test.YtoobkajilbmdhaaPgP
namespace Go.Proofs.Ytoobkajilbmdhaa
open Go.RowKit
set_option linter.unusedVariables false

theorem nodeOk_leaf {l : List Nd} {i : Nat} {n : Nd} (h : isSp n = false) : nodeOk l i n = leafOk n := by
  unfold nodeOk
  simp only [isSp, beq_eq_false_iff_ne, ne_eq] at h
  split
  · rfl
  · rename_i hl
    have h1 : splitIn i n = false := by simp [splitIn, h]
    have h2 : leafOk n = false := by
      simp only [leafN, decide_eq_true_eq] at hl
      have : tileOk n.tile = false := by simp [tileOk, inIs]; omega
      simp [leafOk, this]
    rw [h1, h2]; rfl
theorem nodeOk_split {l : List Nd} {n : Nd} (h : isSp n = true) (ht : ∀ x ∈ l, -1 ≤ x.tile) :
    nodeOk l l.length n = (thereN l.length n.a && thereN l.length n.b && thereN l.length n.c && thereN l.length n.d && !oneL l n.a n.b n.c n.d) := by
  simp only [isSp, beq_iff_eq] at h
  have h1 : leafN n = false := by simp [leafN, h]
  unfold nodeOk
  rw [h1]
  simp only [Bool.false_eq_true, if_false]
  have h2 : splitIn l.length n = (thereN l.length n.a && thereN l.length n.b && thereN l.length n.c && thereN l.length n.d) := by simp [splitIn, thereN, h]
  rw [h2]
  cases ha : thereN l.length n.a
  · simp
  · have hlt : n.a.toNat < l.length ∧ 0 ≤ n.a := by simp [thereN, inIs] at ha; omega
    have h3 : unlike l n = !oneL l n.a n.b n.c n.d := by
      have hm : leafN (l.getD n.a.toNat ⟨0, 0, 0, 0, 0⟩) = !isSp (l.getD n.a.toNat ⟨0, 0, 0, 0, 0⟩) := by
        have e : l.getD n.a.toNat ⟨0, 0, 0, 0, 0⟩ = l[n.a.toNat]'hlt.1 := by simp [List.getD, hlt.1]
        rw [e]
        have := ht _ (List.getElem_mem hlt.1)
        simp only [leafN, isSp]
        by_cases hq : (l[n.a.toNat]'hlt.1).tile = -1
        · simp [hq]
        · rw [show ((l[n.a.toNat]'hlt.1).tile == -1) = false by simpa using hq]
          simp; omega
      unfold unlike oneL
      rw [hm]
      generalize isSp (l.getD n.a.toNat ⟨0, 0, 0, 0, 0⟩) = s
      rw [Bool.eq_iff_iff]
      cases s <;> simp <;> omega
    rw [h3]

set_option maxRecDepth 100000 in
set_option maxHeartbeats 1000000 in
theorem pNode_any (A : Option Addr) (c : Nat) (l : List Nd) (n : Nd) (w : World) (h : RN w w.heap.size A l) (ht : ∀ x ∈ l, -1 ≤ x.tile) :
    Calls Try.prog 54 #[.slice A l.length c, n.val] w fun e w' => e = .returned (.bool (nodeOk l l.length n)) ∧ Below w.heap.size w w' := by
  have hS := pSplit_any n
  have H := Lib.hid h
  clear h
  cases hsp : isSp n
  · rw [nodeOk_leaf hsp]
    rw [hsp] at hS
    clear hsp ht
    obtain ⟨t, na, nb, nc, nd⟩ := n
    unfold Nd.val at *
    simp only at *
    have hbw : Below w.heap.size w (w.alloc (.cells #[.int .i64 t, .int .i64 na, .int .i64 nb, .int .i64 nc, .int .i64 nd] 73)) := (Below.refl _ _).alloc (Nat.le_refl _) _
    have hx0 : NdAt (w.alloc (.cells #[.int .i64 t, .int .i64 na, .int .i64 nb, .int .i64 nc, .int .i64 nd] 73)) w.heap.size 0 ⟨t, na, nb, nc, nd⟩ := ⟨by simp [go_sem], by simp [go_sem], by simp [go_sem], by simp [go_sem], by simp [go_sem]⟩
    have HX := Lib.hid hx0
    clear hx0
    have hT := pTile_any t
    cases htl : tileOk t
    · rw [htl] at hT
      have HT := Lib.hid htl
      clear htl
      go_enter Try.func54, Try.ntmps54
      go_wp2_with fail
      refine (hS _).mono ?_
      rintro e w1 ⟨rfl, hb1⟩
      have HB1 := Lib.hid (hbw.trans (hb1.mono hbw.size))
      obtain ⟨e0, e1, e2, e3, e4⟩ := HX.out.keep (hb1.block w.heap.size (by simp))
      simp only [Nat.zero_add] at e0 e1 e2 e3 e4
      clear hb1 hS
      go_wp2_with fail
      first
        | (go_region_with (go_at_call 63; refine (hT _).mono ?_; rintro e w2 ⟨rfl, rfl⟩))
        | fail
      all_goals
        go_wp2
        go_ret
        exact ⟨ret_bool (by simp [leafOk, HT.out]), HB1.out.drew⟩
    · rw [htl] at hT
      have HT := Lib.hid htl
      clear htl
      have hL := pLeafOf_any t
      by_cases hq : (⟨t, na, nb, nc, nd⟩ : Nd) = ⟨t, 0, 0, 0, 0⟩
      · cases hq
        go_enter Try.func54, Try.ntmps54
        go_wp2_with fail
        refine (hS _).mono ?_
        rintro e w1 ⟨rfl, hb1⟩
        have HB1 := Lib.hid (hbw.trans (hb1.mono hbw.size))
        have hz1 : w.heap.size < w1.heap.size := by have := hb1.size; simp at this; omega
        have HX1 := Lib.hid (HX.out.keep (hb1.block w.heap.size (by simp)))
        obtain ⟨e0, e1, e2, e3, e4⟩ := HX1.out
        simp only [Nat.zero_add] at e0 e1 e2 e3 e4
        clear hb1 hS
        go_wp2_with fail
        go_region_held3 (fun w' => w'.cell? ⟨w.heap.size, 0, none⟩ = some (.int .i64 t) ∧ w'.cell? ⟨w.heap.size, 1, none⟩ = some (.int .i64 0) ∧ w'.cell? ⟨w.heap.size, 2, none⟩ = some (.int .i64 0) ∧ w'.cell? ⟨w.heap.size, 3, none⟩ = some (.int .i64 0) ∧ w'.cell? ⟨w.heap.size, 4, none⟩ = some (.int .i64 0))
          (first
            | go_keep
            | exact hk)
          (first
            | (go_at_call 63; refine (hT _).mono ?_; rintro e w2 ⟨rfl, rfl⟩)
            | (go_at_call 66; refine (hL w1.drew).mono ?_; rintro e w3 ⟨rfl, hb3⟩; have hk := (HX1.out.keep (hb3.block w.heap.size hz1)).all; have HB3 := Lib.hid (HB1.out.drew.trans (hb3.mono (Nat.le_of_lt hz1))); clear hb3))
        go_wp2
        go_ret
        exact ⟨ret_bool (by simp [leafOk, HT.out]), HB3.out⟩
      · have h5 := nd_ne hq
        clear hq
        have h6 : ¬ na = 0 ∨ (na = 0 ∧ ¬ nb = 0) ∨ (na = 0 ∧ nb = 0 ∧ ¬ nc = 0) ∨ (na = 0 ∧ nb = 0 ∧ nc = 0 ∧ ¬ nd = 0) := by omega
        clear h5
        have HQ : Hid (leafOk ⟨t, na, nb, nc, nd⟩ = false) := by
          show _ = _
          simp only [leafOk, Bool.and_eq_false_iff, beq_eq_false_iff_ne]
          omega
        rcases h6 with h6 | ⟨rfl, h6⟩ | ⟨rfl, rfl, h6⟩ | ⟨rfl, rfl, rfl, h6⟩
        · go_enter Try.func54, Try.ntmps54
          go_wp2_with fail
          refine (hS _).mono ?_
          rintro e w1 ⟨rfl, hb1⟩
          have HB1 := Lib.hid (hbw.trans (hb1.mono hbw.size))
          have hz1 : w.heap.size < w1.heap.size := by have := hb1.size; simp at this; omega
          have HX1 := Lib.hid (HX.out.keep (hb1.block w.heap.size (by simp)))
          obtain ⟨e0, e1, e2, e3, e4⟩ := HX1.out
          simp only [Nat.zero_add] at e0 e1 e2 e3 e4
          clear hb1 hS
          go_wp2_with fail
          go_region_held3 (fun w' => w'.cell? ⟨w.heap.size, 0, none⟩ = some (.int .i64 t) ∧ w'.cell? ⟨w.heap.size, 1, none⟩ = some (.int .i64 na) ∧ w'.cell? ⟨w.heap.size, 2, none⟩ = some (.int .i64 nb) ∧ w'.cell? ⟨w.heap.size, 3, none⟩ = some (.int .i64 nc) ∧ w'.cell? ⟨w.heap.size, 4, none⟩ = some (.int .i64 nd))
            (first
              | go_keep
              | exact hk)
            (first
              | (go_at_call 63; refine (hT _).mono ?_; rintro e w2 ⟨rfl, rfl⟩)
              | (go_at_call 66; refine (hL w1.drew).mono ?_; rintro e w3 ⟨rfl, hb3⟩; have hk := (HX1.out.keep (hb3.block w.heap.size hz1)).all; have HB3 := Lib.hid (HB1.out.drew.trans (hb3.mono (Nat.le_of_lt hz1))); clear hb3))
          go_wp2
          go_ret
          exact ⟨ret_bool HQ.out.symm, HB3.out⟩
        · go_enter Try.func54, Try.ntmps54
          go_wp2_with fail
          refine (hS _).mono ?_
          rintro e w1 ⟨rfl, hb1⟩
          have HB1 := Lib.hid (hbw.trans (hb1.mono hbw.size))
          have hz1 : w.heap.size < w1.heap.size := by have := hb1.size; simp at this; omega
          have HX1 := Lib.hid (HX.out.keep (hb1.block w.heap.size (by simp)))
          obtain ⟨e0, e1, e2, e3, e4⟩ := HX1.out
          simp only [Nat.zero_add] at e0 e1 e2 e3 e4
          clear hb1 hS
          go_wp2_with fail
          go_region_held3 (fun w' => w'.cell? ⟨w.heap.size, 0, none⟩ = some (.int .i64 t) ∧ w'.cell? ⟨w.heap.size, 1, none⟩ = some (.int .i64 0) ∧ w'.cell? ⟨w.heap.size, 2, none⟩ = some (.int .i64 nb) ∧ w'.cell? ⟨w.heap.size, 3, none⟩ = some (.int .i64 nc) ∧ w'.cell? ⟨w.heap.size, 4, none⟩ = some (.int .i64 nd))
            (first
              | go_keep
              | exact hk)
            (first
              | (go_at_call 63; refine (hT _).mono ?_; rintro e w2 ⟨rfl, rfl⟩)
              | (go_at_call 66; refine (hL w1.drew).mono ?_; rintro e w3 ⟨rfl, hb3⟩; have hk := (HX1.out.keep (hb3.block w.heap.size hz1)).all; have HB3 := Lib.hid (HB1.out.drew.trans (hb3.mono (Nat.le_of_lt hz1))); clear hb3))
          go_wp2
          go_ret
          exact ⟨ret_bool HQ.out.symm, HB3.out⟩
        · go_enter Try.func54, Try.ntmps54
          go_wp2_with fail
          refine (hS _).mono ?_
          rintro e w1 ⟨rfl, hb1⟩
          have HB1 := Lib.hid (hbw.trans (hb1.mono hbw.size))
          have hz1 : w.heap.size < w1.heap.size := by have := hb1.size; simp at this; omega
          have HX1 := Lib.hid (HX.out.keep (hb1.block w.heap.size (by simp)))
          obtain ⟨e0, e1, e2, e3, e4⟩ := HX1.out
          simp only [Nat.zero_add] at e0 e1 e2 e3 e4
          clear hb1 hS
          go_wp2_with fail
          go_region_held3 (fun w' => w'.cell? ⟨w.heap.size, 0, none⟩ = some (.int .i64 t) ∧ w'.cell? ⟨w.heap.size, 1, none⟩ = some (.int .i64 0) ∧ w'.cell? ⟨w.heap.size, 2, none⟩ = some (.int .i64 0) ∧ w'.cell? ⟨w.heap.size, 3, none⟩ = some (.int .i64 nc) ∧ w'.cell? ⟨w.heap.size, 4, none⟩ = some (.int .i64 nd))
            (first
              | go_keep
              | exact hk)
            (first
              | (go_at_call 63; refine (hT _).mono ?_; rintro e w2 ⟨rfl, rfl⟩)
              | (go_at_call 66; refine (hL w1.drew).mono ?_; rintro e w3 ⟨rfl, hb3⟩; have hk := (HX1.out.keep (hb3.block w.heap.size hz1)).all; have HB3 := Lib.hid (HB1.out.drew.trans (hb3.mono (Nat.le_of_lt hz1))); clear hb3))
          go_wp2
          go_ret
          exact ⟨ret_bool HQ.out.symm, HB3.out⟩
        · go_enter Try.func54, Try.ntmps54
          go_wp2_with fail
          refine (hS _).mono ?_
          rintro e w1 ⟨rfl, hb1⟩
          have HB1 := Lib.hid (hbw.trans (hb1.mono hbw.size))
          have hz1 : w.heap.size < w1.heap.size := by have := hb1.size; simp at this; omega
          have HX1 := Lib.hid (HX.out.keep (hb1.block w.heap.size (by simp)))
          obtain ⟨e0, e1, e2, e3, e4⟩ := HX1.out
          simp only [Nat.zero_add] at e0 e1 e2 e3 e4
          clear hb1 hS
          go_wp2_with fail
          go_region_held3 (fun w' => w'.cell? ⟨w.heap.size, 0, none⟩ = some (.int .i64 t) ∧ w'.cell? ⟨w.heap.size, 1, none⟩ = some (.int .i64 0) ∧ w'.cell? ⟨w.heap.size, 2, none⟩ = some (.int .i64 0) ∧ w'.cell? ⟨w.heap.size, 3, none⟩ = some (.int .i64 0) ∧ w'.cell? ⟨w.heap.size, 4, none⟩ = some (.int .i64 nd))
            (first
              | go_keep
              | exact hk)
            (first
              | (go_at_call 63; refine (hT _).mono ?_; rintro e w2 ⟨rfl, rfl⟩)
              | (go_at_call 66; refine (hL w1.drew).mono ?_; rintro e w3 ⟨rfl, hb3⟩; have hk := (HX1.out.keep (hb3.block w.heap.size hz1)).all; have HB3 := Lib.hid (HB1.out.drew.trans (hb3.mono (Nat.le_of_lt hz1))); clear hb3))
          go_wp2
          go_ret
          exact ⟨ret_bool HQ.out.symm, HB3.out⟩
  · rw [nodeOk_split hsp ht]
    rw [hsp] at hS
    have HT := Lib.hid ht
    have hQ := pQuarters_any n
    clear hsp ht
    obtain ⟨t, na, nb, nc, nd⟩ := n
    unfold Nd.val at *
    simp only at *
    have hbw : Below w.heap.size w (w.alloc (.cells #[.int .i64 t, .int .i64 na, .int .i64 nb, .int .i64 nc, .int .i64 nd] 73)) := (Below.refl _ _).alloc (Nat.le_refl _) _
    have hx0 : NdAt (w.alloc (.cells #[.int .i64 t, .int .i64 na, .int .i64 nb, .int .i64 nc, .int .i64 nd] 73)) w.heap.size 0 ⟨t, na, nb, nc, nd⟩ := ⟨by simp [go_sem], by simp [go_sem], by simp [go_sem], by simp [go_sem], by simp [go_sem]⟩
    have HX := Lib.hid hx0
    clear hx0
    go_enter Try.func54, Try.ntmps54
    go_wp2_with fail
    refine (hS _).mono ?_
    rintro e w1 ⟨rfl, hb1⟩
    have HB1 := Lib.hid (hbw.trans (hb1.mono hbw.size))
    have hz1 : w.heap.size < w1.heap.size := by have := hb1.size; simp at this; omega
    have HX1 := Lib.hid (HX.out.keep (hb1.block w.heap.size (by simp)))
    obtain ⟨e0, e1, e2, e3, e4⟩ := HX1.out
    simp only [Nat.zero_add] at e0 e1 e2 e3 e4
    clear hb1 hS
    go_wp2_with fail
    refine (hQ _).mono ?_
    unfold qV
    rintro e w2 ⟨rfl, hb2⟩
    have HB2 := Lib.hid (HB1.out.trans (hb2.mono (Nat.le_of_lt hz1)))
    clear hb2 hQ e0 e1 e2 e3 e4
    go_wp2
    have HB3 := Lib.hid (HB2.out.alloc HB2.out.size (.cells #[.int .i64 na, .int .i64 nb, .int .i64 nc, .int .i64 nd] 83))
    have hTh := fun node w => pThere_any A l.length c node w
    go_loop [24] (fun i => ∃ k : Nat, i = .int .i64 k ∧ k ≤ 4 ∧ ∀ j, j < k → thereN l.length ([na, nb, nc, nd].getD j 0) = true) (fun i => 4 - (intOf i).toNat)
    case atStart => exact ⟨0, rfl, Nat.zero_le _, fun j h => absurd h (Nat.not_lt_zero _)⟩
    case round =>
      obtain ⟨k, rfl, hk, hall⟩ := hrel
      have HA := Lib.hid hall
      clear hall
      by_cases hk4 : k = 4
      · subst hk4
        have h0 := HA.out 0 (by omega)
        have h1 := HA.out 1 (by omega)
        have h2 := HA.out 2 (by omega)
        have h3 := HA.out 3 (by omega)
        simp [List.getD] at h0 h1 h2 h3
        have HF : Hid ((thereN l.length na && thereN l.length nb && thereN l.length nc && thereN l.length nd && !oneL l na nb nc nd) = !oneL l na nb nc nd) := by show _ = _; rw [h0, h1, h2, h3]; simp
        simp [thereN, inIs] at h0
        have hO := pOneLeaf_any A c l na nb nc nd _ ((H.out.below HB3.out).mono HB3.out.size) (by omega) (by omega)
        unfold qV at hO
        clear h0 h1 h2 h3
        go_wp2_with fail
        refine hO.mono ?_
        rintro e w4 ⟨rfl, hb4⟩
        have HB4 := Lib.hid (HB3.out.trans (hb4.mono HB3.out.size))
        clear hb4
        go_wp2
        go_ret
        exact ⟨ret_bool HF.out.symm, HB4.out⟩
      · have h4 : k = 0 ∨ k = 1 ∨ k = 2 ∨ k = 3 := by omega
        rcases h4 with rfl | rfl | rfl | rfl
        · have hTk := hTh na
          have hix := index_quad0 na nb nc nd
          cases ht : thereN l.length na
          · rw [ht] at hTk
            have HTT := Lib.hid ht
            clear ht hTh
            go_wp2_with fail
            refine (hTk _).mono ?_
            rintro e w4 ⟨rfl, rfl⟩
            go_wp2
            go_ret
            exact ⟨ret_bool (by simp [HTT.out]), HB3.out⟩
          · rw [ht] at hTk
            have HTT := Lib.hid ht
            clear ht hTh
            go_wp2_with fail
            refine (hTk _).mono ?_
            rintro e w4 ⟨rfl, rfl⟩
            go_wp2
            go_round
            case rel => exact ⟨1, by go_num, by omega, fun j hj => by
              by_cases e : j = 0
              · subst e; exact HTT.out
              · exact HA.out j (by omega)⟩
            case measure => simp [intOf]
        · have hTk := hTh nb
          have hix := index_quad1 na nb nc nd
          cases ht : thereN l.length nb
          · rw [ht] at hTk
            have HTT := Lib.hid ht
            clear ht hTh
            go_wp2_with fail
            refine (hTk _).mono ?_
            rintro e w4 ⟨rfl, rfl⟩
            go_wp2
            go_ret
            exact ⟨ret_bool (by simp [HTT.out]), HB3.out⟩
          · rw [ht] at hTk
            have HTT := Lib.hid ht
            clear ht hTh
            go_wp2_with fail
            refine (hTk _).mono ?_
            rintro e w4 ⟨rfl, rfl⟩
            go_wp2
            go_round
            case rel => exact ⟨2, by go_num, by omega, fun j hj => by
              by_cases e : j = 1
              · subst e; exact HTT.out
              · exact HA.out j (by omega)⟩
            case measure => simp [intOf]
        · have hTk := hTh nc
          have hix := index_quad2 na nb nc nd
          cases ht : thereN l.length nc
          · rw [ht] at hTk
            have HTT := Lib.hid ht
            clear ht hTh
            go_wp2_with fail
            refine (hTk _).mono ?_
            rintro e w4 ⟨rfl, rfl⟩
            go_wp2
            go_ret
            exact ⟨ret_bool (by simp [HTT.out]), HB3.out⟩
          · rw [ht] at hTk
            have HTT := Lib.hid ht
            clear ht hTh
            go_wp2_with fail
            refine (hTk _).mono ?_
            rintro e w4 ⟨rfl, rfl⟩
            go_wp2
            go_round
            case rel => exact ⟨3, by go_num, by omega, fun j hj => by
              by_cases e : j = 2
              · subst e; exact HTT.out
              · exact HA.out j (by omega)⟩
            case measure => simp [intOf]
        · have hTk := hTh nd
          have hix := index_quad3 na nb nc nd
          cases ht : thereN l.length nd
          · rw [ht] at hTk
            have HTT := Lib.hid ht
            clear ht hTh
            go_wp2_with fail
            refine (hTk _).mono ?_
            rintro e w4 ⟨rfl, rfl⟩
            go_wp2
            go_ret
            exact ⟨ret_bool (by simp [HTT.out]), HB3.out⟩
          · rw [ht] at hTk
            have HTT := Lib.hid ht
            clear ht hTh
            go_wp2_with fail
            refine (hTk _).mono ?_
            rintro e w4 ⟨rfl, rfl⟩
            go_wp2
            go_round
            case rel => exact ⟨4, by go_num, by omega, fun j hj => by
              by_cases e : j = 3
              · subst e; exact HTT.out
              · exact HA.out j (by omega)⟩
            case measure => simp [intOf]
end Go.Proofs.Ytoobkajilbmdhaa
