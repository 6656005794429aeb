/- The program's weights, counted. -/
import Derived.Test.YtoobkajilbmdhaaPgW
namespace Go.Proofs.Ytoobkajilbmdhaa
open Go.RowKit
set_option linter.unusedVariables false

theorem count_take_p (M : List Bool) {k : Nat} (hk : k < M.length) : ((M.take (k + 1)).count true : Int) = (M.take k).count true + if M[k] then 1 else 0 := by
  rw [List.take_succ_eq_append_getElem hk, List.count_append]
  cases M[k] <;> simp
set_option maxRecDepth 100000 in
set_option maxHeartbeats 1000000 in
theorem pWeight_any (A : Option Addr) (c : Nat) (l : List Nd) (node : Int) (w : World) (h : RN w w.heap.size A l) (hl : l.length ≤ 1048576) (hc : l.length ≤ c) (hf : ∀ n ∈ l, n.Fits) :
    Calls Try.prog 9 #[.agg #[.slice A l.length c], .int .i64 node] w fun e w' => e = .returned (.int .i64 (weightN l node)) ∧ Below w.heap.size w w' := by
  have HP0 := Lib.hid (PB.made w A c l h)
  have hbw : Below w.heap.size w (w.alloc (.cells #[.slice A l.length c] 29)) := (Below.refl _ _).alloc (Nat.le_refl _) _
  have hPR := pPoolRight_any A c l (w.alloc (.cells #[.slice A l.length c] 29)) ((h.below hbw).mono (by simp)) hl hc hf
  clear h hf
  cases hr : poolRight l
  · rw [hr] at hPR
    have HR := Lib.hid hr
    clear hr
    go_enter Try.func9, Try.ntmps9
    go_wp2_with fail
    refine hPR.mono ?_
    rintro e w1 ⟨rfl, hb1⟩
    have HP1 := Lib.hid (HP0.out.below hb1)
    have c1 := HP1.out.c0
    clear hb1
    go_wp2
    go_ret
    exact ⟨ret_int (by simp [weightN, HR.out]), HP1.out.bel⟩
  · rw [hr] at hPR
    have HR := Lib.hid hr
    have h200 := pool_len hr
    clear hr
    have hTh := fun w => pThere_any A l.length c node w
    cases ht : thereN l.length node
    · rw [ht] at hTh
      have HT := Lib.hid ht
      clear ht
      go_enter Try.func9, Try.ntmps9
      go_wp2_with fail
      refine hPR.mono ?_
      rintro e w1 ⟨rfl, hb1⟩
      have HP1 := Lib.hid (HP0.out.below hb1)
      have c1 := HP1.out.c0
      clear hb1
      go_wp2_with fail
      refine (hTh _).mono ?_
      rintro e w2 ⟨rfl, rfl⟩
      have HP2 := HP1
      go_wp2
      go_ret
      exact ⟨ret_int (by simp [weightN, HT.out]), HP2.out.bel⟩
    · rw [ht] at hTh
      have HT := Lib.hid ht
      have h2 : 0 ≤ node ∧ node < l.length := by simp [thereN, inIs] at ht; omega
      obtain ⟨k, rfl⟩ := Int.eq_ofNat_of_zero_le h2.1
      have hk : k < l.length := by omega
      clear ht h2
      go_enter Try.func9, Try.ntmps9
      go_wp2_with fail
      refine hPR.mono ?_
      rintro e w1 ⟨rfl, hb1⟩
      have HP1 := Lib.hid (HP0.out.below hb1)
      have c1 := HP1.out.c0
      clear hb1
      go_wp2_with fail
      refine (hTh _).mono ?_
      rintro e w2 ⟨rfl, rfl⟩
      go_wp2_with fail
      have HP2 := Lib.hid (HP1.out.below ((Below.refl _ _).alloc (Nat.le_refl _) (.cells #[.int .i64 k] 2)))
      have HRI : Hid (RI (w1.alloc (.cells #[.int .i64 k] 2)) (w1.alloc (.cells #[.int .i64 k] 2)).heap.size (some ⟨w1.heap.size, 0, none⟩) ([k].map fun (r : Nat) => (r : Int))) := .inr ⟨w1.heap.size, 0, rfl, by simp, fun j hj => by
        have : j = 0 := by simpa using hj
        subst this
        simp [go_sem]⟩
      refine (pNeeded_any A c l (some ⟨w1.heap.size, 0, none⟩) 1 [k] _ HP2.out.rn HR.out HRI.out (by simpa using hk) (by simp)).mono ?_
      rintro e w4 ⟨rfl, ho4, hb4⟩
      have HB4 := Lib.hid (HP2.out.below hb4).bel
      simp only [alloc_size] at ho4 ⊢
      have HML := Lib.hid (needA_len l [k])
      have HO4 := Lib.hid ho4
      clear ho4 hb4 c1
      generalize hNM : needA l [k] = M at *
      have HNM := Lib.hid hNM
      clear hNM
      go_wp2
      go_loop [5, 24] (fun n i => ∃ j : Nat, i = .int .i64 j ∧ n = .int .i64 ((M.take j).count true) ∧ j ≤ l.length) (fun _ i => l.length - (intOf i).toNat)
      case atStart => exact ⟨0, rfl, by simp, Nat.zero_le _⟩
      case round =>
        obtain ⟨j, rfl, rfl, hj⟩ := hrel
        by_cases hlt : j < l.length
        · have hML := HML.out
          obtain ⟨g, e, _, _, hc, _⟩ := HO4.out.at_ (j := j) (by omega)
          cases e
          have HC := Lib.hid (count_take_p M (k := j) (by omega))
          have hle := List.count_le_length (a := true) (l := M.take j)
          have hle2 : (M.take j).length ≤ l.length := by simp; omega
          generalize hcn : (M.take j).count true = cn at *
          clear hcn
          have hw : wrap64 ((cn : Int) + 1) = (cn : Int) + 1 := wrap64_in (by omega) (by omega)
          cases hm : M[j]'(by omega)
          · rw [hm] at hc HC
            clear hm hML
            go_wp2
            go_round
            case rel => exact ⟨j + 1, by go_num, by rw [HC.out]; simp, by omega⟩
            case measure => simp [intOf]; omega
          · rw [hm] at hc HC
            clear hm hML
            go_wp2
            go_round
            case rel => exact ⟨j + 1, by go_num, by rw [HC.out]; simp, by omega⟩
            case measure => simp [intOf]; omega
        · have ej : j = l.length := by omega
          subst ej
          have HW : Hid (((M.take l.length).count true : Int) = weightN l k) := by
            show _ = _
            have e : M.take l.length = M := by rw [← HML.out, List.take_length]
            rw [weightN, HR.out, HT.out, e, ← HNM.out, needA_count HR.out hk]
            simp
          go_wp2
          go_ret
          exact ⟨ret_int HW.out, HB4.out⟩
end Go.Proofs.Ytoobkajilbmdhaa
