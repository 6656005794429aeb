/- The model's pools: the tile of a node at a place. -/
import Derived.Test.YtoobkajilbmdhaaDoorTlM
namespace Go.Proofs.YtoobkajilbmdhaaDoor
open Go.RowKit
set_option linter.unusedVariables false
set_option linter.unusedSimpArgs false

/-- The state of the way down. -/
def TlRel (l : List Nd) (t : Int) (node size x y : Value) : Prop :=
  ∃ d k i j : Nat, node = .int .i64 k ∧ size = .int .i64 ((2 ^ d : Nat) : Int) ∧ x = .int .i64 i ∧ y = .int .i64 j ∧ d ≤ 3 ∧ k < l.length ∧ (hts l).getD k 0 ≤ d ∧ i < 2 ^ d ∧ j < 2 ^ d ∧ tileN l d k i j = t
theorem tmod_nat (a b : Nat) : (a : Int).tmod (b : Int) = ((a % b : Nat) : Int) := by rw [Int.tmod_eq_emod_of_nonneg (by omega)]; omega
set_option maxRecDepth 100000 in
set_option maxHeartbeats 1000000 in
theorem mTileOf_any (A : Option Addr) (c : Nat) (l : List Nd) (w : World) (h : RN w w.heap.size A l) (hr : poolRight l = true) (d k i j : Nat) (hd : d ≤ 3) (hk : k < l.length) (hh : (hts l).getD k 0 ≤ d) (hi : i < 2 ^ d) (hj : j < 2 ^ d) :
    Calls Tryd.prog 98 #[.agg #[.slice A l.length c], .int .i64 k, .int .i64 ((2 ^ d : Nat) : Int), .int .i64 i, .int .i64 j] w fun e w' => e = .returned (.int .i64 (tileN l d k i j)) ∧ Below w.heap.size w w' := by
  have HP0 := Lib.hid (PB.made w A c l h)
  have HR := Lib.hid hr
  have hl := pool_len hr
  have HREL : Hid (TlRel l (tileN l d k i j) (.int .i64 k) (.int .i64 ((2 ^ d : Nat) : Int)) (.int .i64 i) (.int .i64 j)) := ⟨d, k, i, j, rfl, rfl, rfl, rfl, hd, hk, hh, hi, hj, rfl⟩
  clear h hr
  generalize tileN l d k i j = t at *
  clear hd hk hh hi hj
  go_enter Tryd.func98, Tryd.ntmps98
  go_wp2_with fail
  go_loopw [1, 2, 3, 4] (fun node size x y wr => TlRel l t node size x y ∧ PB w A c l wr) (fun node _ _ _ _ => (intOf node).toNat)
  case atStart => exact ⟨HREL.out, HP0.out⟩
  case round =>
    obtain ⟨⟨d, k, i, j, rfl, rfl, rfl, rfl, hd, hk, hh, hi, hj, ht⟩, hpb⟩ := hrel
    have HPB := Lib.hid hpb
    have c0 := hpb.c0
    have HTT := Lib.hid ht
    have HHH := Lib.hid hh
    obtain ⟨b, off, rfl, hbl, hn⟩ := hpb.ri.at_ hk
    have k0 : (0 : Int) ≤ (k : Int) := by omega
    have k1 : (k : Int) < (l.length : Int) := by omega
    have hLf := mLeaf_any l[k]
    clear HREL HP0 ht hh hpb
    cases hlf : leafN l[k]
    · obtain ⟨e, rfl, hq1, hq2, hq3⟩ := tile_down (x := i) (y := j) HR.out hk hlf HHH.out
      obtain ⟨q0, qa, qb, qc, qd⟩ := ok_split (right_node HR.out hk) hlf
      rw [hlf] at hLf
      have HED : Hid (e ≤ 3) := by show _ ≤ _; omega
      have HX1 : Hid (i % 2 ^ e < 2 ^ e) := Nat.mod_lt _ Nat.one_le_two_pow
      have HY1 : Hid (j % 2 ^ e < 2 ^ e) := Nat.mod_lt _ Nat.one_le_two_pow
      have HQ3 : Hid (tileN l e (quarter l[k] (2 ^ e) i j) (i % 2 ^ e) (j % 2 ^ e) = t) := hq3.symm.trans HTT.out
      have HQ1 := Lib.hid hq1
      have HQ2 := Lib.hid hq2
      have he : e = 0 ∨ e = 1 ∨ e = 2 := by omega
      clear hq1 hq2 hq3 q0 hlf HTT HHH hd
      generalize l[k] = n at *
      obtain ⟨nt, na, nb, nc, nd⟩ := n
      simp only at qa qb qc qd
      obtain ⟨ia, rfl⟩ := Int.eq_ofNat_of_zero_le qa.1
      obtain ⟨ib, rfl⟩ := Int.eq_ofNat_of_zero_le qb.1
      obtain ⟨ic, rfl⟩ := Int.eq_ofNat_of_zero_le qc.1
      obtain ⟨id, rfl⟩ := Int.eq_ofNat_of_zero_le qd.1
      unfold Nd.val at hLf
      obtain ⟨d0, d1, d2, d3, d4⟩ := hn
      simp only at d0 d1 d2 d3 d4 hLf
      have HN := Lib.hid (NdAt.mk d0 d1 d2 d3 d4 : NdAt wr b (off + k * 5) ⟨nt, ia, ib, ic, id⟩)
      have HZB := Lib.hid (Nat.lt_trans hbl HPB.out.siz)
      clear d0 d1 d2 d3 d4 hbl
      rcases he with rfl | rfl | rfl
      · simp only [Nat.reduceAdd, Nat.reducePow] at *
        have i8 : (i : Int) < 2 := by omega
        have j8 : (j : Int) < 2 := by omega
        by_cases h1 : 1 ≤ i
        all_goals
          by_cases h2 : 1 ≤ j
          all_goals
            have HQ : Hid (quarter (⟨nt, ia, ib, ic, id⟩ : Nd) 1 i j = if 1 ≤ i ∧ 1 ≤ j then id else if 1 ≤ j then ic else if 1 ≤ i then ib else ia) := by show _ = _; simp [quarter]
            simp only [h1, h2, and_self, and_true, and_false, true_and, false_and, if_true, if_false] at HQ
            rw [HQ.out] at HQ1 HQ2 HQ3
            have g1 : decide ((1 : Int) ≤ i) = decide (1 ≤ i) := by apply decide_eq_decide.2; omega
            have g2 : decide ((1 : Int) ≤ j) = decide (1 ≤ j) := by apply decide_eq_decide.2; omega
            simp only [h1, h2, decide_true, decide_false] at g1 g2
            obtain ⟨d0, d1, d2, d3, d4⟩ := HN.out
            simp only at d0 d1 d2 d3 d4
            go_wp2_with fail
            refine (hLf _).mono ?_
            rintro e w1 ⟨rfl, hb1⟩
            have HP1 := Lib.hid (HPB.out.below hb1)
            have HN1 := HN.out.keep (hb1.block b HZB.out)
            have c1 := HP1.out.c0
            have hzb1 : b < w1.heap.size := Nat.lt_of_lt_of_le HZB.out hb1.size
            have HP2 := Lib.hid (HP1.out.below ((Below.refl _ _).alloc (Nat.le_refl _) (.cells #[.int .i64 nt, .int .i64 ia, .int .i64 ib, .int .i64 ic, .int .i64 id] 84)))
            clear hb1 d0 d1 d2 d3 d4 c0
            obtain ⟨d0, d1, d2, d3, d4⟩ := HN1
            simp only at d0 d1 d2 d3 d4
            go_wp2
            go_roundw
            case rel => exact ⟨⟨0, _, i % 1, j % 1, rfl, rfl, by first | rfl | (congr 1; omega), by first | rfl | (congr 1; omega), HED.out, by have := HQ1.out; omega, HQ2.out, HX1.out, HY1.out, HQ3.out⟩, HP2.out⟩
            case measure => have := HQ1.out; simp [intOf]; omega
      · simp only [Nat.reduceAdd, Nat.reducePow] at *
        have i8 : (i : Int) < 4 := by omega
        have j8 : (j : Int) < 4 := by omega
        by_cases h1 : 2 ≤ i
        all_goals
          by_cases h2 : 2 ≤ j
          all_goals
            have HQ : Hid (quarter (⟨nt, ia, ib, ic, id⟩ : Nd) 2 i j = if 2 ≤ i ∧ 2 ≤ j then id else if 2 ≤ j then ic else if 2 ≤ i then ib else ia) := by show _ = _; simp [quarter]
            simp only [h1, h2, and_self, and_true, and_false, true_and, false_and, if_true, if_false] at HQ
            rw [HQ.out] at HQ1 HQ2 HQ3
            have g1 : decide ((2 : Int) ≤ i) = decide (2 ≤ i) := by apply decide_eq_decide.2; omega
            have g2 : decide ((2 : Int) ≤ j) = decide (2 ≤ j) := by apply decide_eq_decide.2; omega
            simp only [h1, h2, decide_true, decide_false] at g1 g2
            obtain ⟨d0, d1, d2, d3, d4⟩ := HN.out
            simp only at d0 d1 d2 d3 d4
            go_wp2_with fail
            refine (hLf _).mono ?_
            rintro e w1 ⟨rfl, hb1⟩
            have HP1 := Lib.hid (HPB.out.below hb1)
            have HN1 := HN.out.keep (hb1.block b HZB.out)
            have c1 := HP1.out.c0
            have hzb1 : b < w1.heap.size := Nat.lt_of_lt_of_le HZB.out hb1.size
            have HP2 := Lib.hid (HP1.out.below ((Below.refl _ _).alloc (Nat.le_refl _) (.cells #[.int .i64 nt, .int .i64 ia, .int .i64 ib, .int .i64 ic, .int .i64 id] 84)))
            clear hb1 d0 d1 d2 d3 d4 c0
            obtain ⟨d0, d1, d2, d3, d4⟩ := HN1
            simp only at d0 d1 d2 d3 d4
            go_wp2
            go_roundw
            case rel => exact ⟨⟨1, _, i % 2, j % 2, rfl, rfl, by first | rfl | (congr 1; omega), by first | rfl | (congr 1; omega), HED.out, by have := HQ1.out; omega, HQ2.out, HX1.out, HY1.out, HQ3.out⟩, HP2.out⟩
            case measure => have := HQ1.out; simp [intOf]; omega
      · simp only [Nat.reduceAdd, Nat.reducePow] at *
        have i8 : (i : Int) < 8 := by omega
        have j8 : (j : Int) < 8 := by omega
        by_cases h1 : 4 ≤ i
        all_goals
          by_cases h2 : 4 ≤ j
          all_goals
            have HQ : Hid (quarter (⟨nt, ia, ib, ic, id⟩ : Nd) 4 i j = if 4 ≤ i ∧ 4 ≤ j then id else if 4 ≤ j then ic else if 4 ≤ i then ib else ia) := by show _ = _; simp [quarter]
            simp only [h1, h2, and_self, and_true, and_false, true_and, false_and, if_true, if_false] at HQ
            rw [HQ.out] at HQ1 HQ2 HQ3
            have g1 : decide ((4 : Int) ≤ i) = decide (4 ≤ i) := by apply decide_eq_decide.2; omega
            have g2 : decide ((4 : Int) ≤ j) = decide (4 ≤ j) := by apply decide_eq_decide.2; omega
            simp only [h1, h2, decide_true, decide_false] at g1 g2
            obtain ⟨d0, d1, d2, d3, d4⟩ := HN.out
            simp only at d0 d1 d2 d3 d4
            go_wp2_with fail
            refine (hLf _).mono ?_
            rintro e w1 ⟨rfl, hb1⟩
            have HP1 := Lib.hid (HPB.out.below hb1)
            have HN1 := HN.out.keep (hb1.block b HZB.out)
            have c1 := HP1.out.c0
            have hzb1 : b < w1.heap.size := Nat.lt_of_lt_of_le HZB.out hb1.size
            have HP2 := Lib.hid (HP1.out.below ((Below.refl _ _).alloc (Nat.le_refl _) (.cells #[.int .i64 nt, .int .i64 ia, .int .i64 ib, .int .i64 ic, .int .i64 id] 84)))
            clear hb1 d0 d1 d2 d3 d4 c0
            obtain ⟨d0, d1, d2, d3, d4⟩ := HN1
            simp only at d0 d1 d2 d3 d4
            go_wp2
            go_roundw
            case rel => exact ⟨⟨2, _, i % 4, j % 4, rfl, rfl, by first | rfl | (congr 1; omega), by first | rfl | (congr 1; omega), HED.out, by have := HQ1.out; omega, HQ2.out, HX1.out, HY1.out, HQ3.out⟩, HP2.out⟩
            case measure => have := HQ1.out; simp [intOf]; omega
    · rw [hlf] at hLf
      have HV : Hid (l[k].tile = t) := by
        show _ = _
        rw [← HTT.out, tileN_leaf (by rw [ndAt_eq hk]; exact hlf), ndAt_eq hk]
      clear hlf
      generalize l[k] = n at hn hLf HV
      obtain ⟨nt, na, nb, nc, nd⟩ := n
      unfold Nd.val at hLf
      obtain ⟨d0, d1, d2, d3, d4⟩ := hn
      simp only at d0 d1 d2 d3 d4 hLf HV
      go_wp2_with fail
      refine (hLf _).mono ?_
      rintro e w1 ⟨rfl, hb1⟩
      have HP1 := Lib.hid (HPB.out.below hb1)
      have d0' := (hb1.cell (p := ⟨b, off + k * 5, none⟩) (Nat.lt_trans hbl HPB.out.siz)).trans d0
      have c1 := HP1.out.c0
      clear hb1 d0 d1 d2 d3 d4 c0
      go_wp2_with fail
      go_ret
      exact ⟨ret_int HV.out, HP1.out.bel⟩
end Go.Proofs.YtoobkajilbmdhaaDoor
