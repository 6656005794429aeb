/- The model's weights, counted. -/
import Derived.Test.YtoobkajilbmdhaaWtM
namespace Go.Proofs.Ytoobkajilbmdhaa
open Go.RowKit
set_option linter.unusedVariables false

theorem count_take (M : List Bool) {k : Nat} (hk : k < M.length) : ((M.take (k + 1)).count true : Int) = (M.take k).count true + if M[k] then 1 else 0 := by
  rw [List.take_succ_eq_append_getElem hk, List.count_append]
  cases M[k] <;> simp
set_option maxRecDepth 100000 in
set_option maxHeartbeats 1000000 in
theorem mWeight_any (A : Option Addr) (c : Nat) (l : List Nd) (node : Int) (w : World) (h : RN w w.heap.size A l) (hl : l.length ≤ 1000000000) :
    Calls Try.prog 7 #[.agg #[.slice A l.length c], .int .i64 node] w fun e w' => e = .returned (.int .i64 (weightN l node)) ∧ Below w.heap.size w w' := by
  obtain ⟨i0, hi, hz0, hz1, hz2⟩ := info_parts Try.infoBool
  have HP0 := Lib.hid (PB.made w A c l h)
  have hbw : Below w.heap.size w (w.alloc (.cells #[.slice A l.length c] 29)) := (Below.refl _ _).alloc (Nat.le_refl _) _
  have hPR := mPoolRight_any A c l (w.alloc (.cells #[.slice A l.length c] 29)) ((h.below hbw).mono (by simp)) hl
  clear h
  cases hr : poolRight l
  · rw [hr] at hPR
    have HR := Lib.hid hr
    clear hr
    go_enter Try.func7, Try.ntmps7
    go_wp2_with fail
    refine hPR.mono ?_
    rintro e w1 ⟨rfl, hb1⟩
    have HP1 := Lib.hid (HP0.out.below hb1)
    have c1 := HP1.out.c0
    clear hb1
    go_wp2
    go_ret
    exact ⟨ret_int (by simp [weightN, HR.out]), HP1.out.bel⟩
  · rw [hr] at hPR
    have HR := Lib.hid hr
    have h200 := pool_len hr
    clear hr
    have hTh := fun w => mThere_any A l.length c node w hl
    cases ht : thereN l.length node
    · rw [ht] at hTh
      have HT := Lib.hid ht
      clear ht
      go_enter Try.func7, Try.ntmps7
      go_wp2_with fail
      refine hPR.mono ?_
      rintro e w1 ⟨rfl, hb1⟩
      have HP1 := Lib.hid (HP0.out.below hb1)
      have c1 := HP1.out.c0
      clear hb1
      go_wp2_with fail
      refine (hTh _).mono ?_
      rintro e w2 ⟨rfl, hb2⟩
      have HP2 := Lib.hid (HP1.out.below hb2)
      clear hb2
      go_wp2
      go_ret
      exact ⟨ret_int (by simp [weightN, HT.out]), HP2.out.bel⟩
    · rw [ht] at hTh
      have HT := Lib.hid ht
      have h2 : 0 ≤ node ∧ node < l.length := by simp [thereN, inIs] at ht; omega
      obtain ⟨k, rfl⟩ := Int.eq_ofNat_of_zero_le h2.1
      have hk : k < l.length := by omega
      clear ht h2
      go_enter Try.func7, Try.ntmps7
      go_wp2_with fail
      refine hPR.mono ?_
      rintro e w1 ⟨rfl, hb1⟩
      have HP1 := Lib.hid (HP0.out.below hb1)
      have c1 := HP1.out.c0
      clear hb1
      go_wp2_with fail
      refine (hTh _).mono ?_
      rintro e w2 ⟨rfl, hb2⟩
      have HP2 := Lib.hid (HP1.out.below hb2)
      have c2 := HP2.out.c0
      clear hb2 c1
      go_wp2_with (at_make; refine wpList_make_full _ rfl _ _ 60 rfl w2.heap.size 4 i0 (.bool false) 1 Try.underlying60 hi hz0 hz1 .i64 .i64 _ _ l.length rfl rfl rfl rfl ?b2 ?b3 (Nat.le_refl _) ?_)
      case b2 => rw [hz2]; omega
      case b3 => unfold maxLen; omega
      intro w3 hown3 hgrow3
      have ho3 := own_falses hown3
      have hb3 : Below w2.heap.size w2 w3 := (Below.refl _ _).grown hgrow3 (Nat.le_refl _) (fun k hk => by cases hk)
      have HP3 := Lib.hid (HP2.out.below hb3)
      have HB3 := Lib.hid hb3
      have HO3 := Lib.hid ho3
      have c3 := HP3.out.c0
      have hsz := HP2.out.siz
      clear hown3 hgrow3 ho3 hb3 c2
      go_wp2_with fail
      refine (mMark_any l HR.out (k + 1) A c w2.heap.size l.length w2.heap.size k _ w3 (by omega) hk (by simp) (HP3.out.ri.mono (by omega)) HO3.out).mono ?_
      rintro e w4 ⟨rfl, M, hp4, ho4, hg4⟩
      have HV := Lib.hid (mark_count HR.out hk hp4)
      have HML : Hid (M.length = l.length) := by show _ = _; rw [hp4.len]; simp
      have HO4 := Lib.hid ho4
      have HB4 : Hid (Below w.heap.size w w4) := HP3.out.bel.grown hg4 HP3.out.bel.size (fun j hj => by cases hj; omega)
      clear hp4 ho4 hg4 c3 HO3 HB3 HP3
      go_wp2
      go_loop [6, 7] (fun n i => ∃ j : Nat, i = .int .i64 j ∧ n = .int .i64 ((M.take j).count true) ∧ j ≤ l.length) (fun _ i => l.length - (intOf i).toNat)
      case atStart => exact ⟨0, rfl, by simp, Nat.zero_le _⟩
      case round =>
        obtain ⟨j, rfl, rfl, hj⟩ := hrel
        by_cases hlt : j < l.length
        · have hML := HML.out
          obtain ⟨g, e, _, _, hc, _⟩ := HO4.out.at_ (j := j) (by omega)
          cases e
          have HC := Lib.hid (count_take M (k := j) (by omega))
          have hle := List.count_le_length (a := true) (l := M.take j)
          have hle2 : (M.take j).length ≤ l.length := by simp; omega
          generalize hcn : (M.take j).count true = cn at *
          have hc0 : (0 : Int) ≤ (cn : Int) := by omega
          have hc1 : (cn : Int) ≤ 200 := by omega
          clear hcn hle hle2
          cases hm : M[j]'(by omega)
          · rw [hm] at hc HC
            clear hm hML
            go_wp2
            go_round
            case rel => exact ⟨j + 1, by go_num, by rw [HC.out]; simp, by omega⟩
            case measure => simp [intOf]; omega
          · rw [hm] at hc HC
            clear hm hML
            go_wp2
            go_round
            case rel => exact ⟨j + 1, by go_num, by first | (rw [HC.out]; simp; done) | (rw [HC.out, wrap64_in (by omega) (by omega)]; simp), by omega⟩
            case measure => simp [intOf]; omega
        · have ej : j = l.length := by omega
          subst ej
          have HW : Hid (((M.take l.length).count true : Int) = weightN l k) := by
            show _ = _
            have e : M.take l.length = M := by rw [← HML.out, List.take_length]
            rw [weightN, HR.out, HT.out, e, HV.out, Int.toNat_natCast]
            rfl
          go_wp2
          go_ret
          exact ⟨ret_int HW.out, HB4.out⟩
end Go.Proofs.Ytoobkajilbmdhaa
