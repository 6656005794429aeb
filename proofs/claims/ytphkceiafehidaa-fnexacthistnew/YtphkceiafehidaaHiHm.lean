/- The program's new history. -/
import Derived.Test.YtphkceiafehidaaQSa
import Derived.Test.YtphkceiafehidaaPgPn
import Derived.Test.YtphkceiafehidaaPgN
namespace Go.Proofs.Ytphkceiafehidaa
open Go.RowKit
set_option linter.unusedVariables false
set_option linter.unusedSimpArgs false

theorem put_zero {side : Int} (h : sideOk side = true) : putP [] side (List.replicate (side * side).toNat 0) = (0, 0, [⟨0, 0, 0, 0, 0⟩]) := by
  rcases (sideOk_iff side).1 h with rfl | rfl | rfl | rfl <;> decide +kernel
/-- A new history's lists, its nodes where they are. -/
theorem OwnHi.newP {w' : World} {b g2 g3 : Nat} {vN : Value} {f : Nat → Br} (hf : f 0 = ⟨⟨#[109, 97, 105, 110]⟩, 0, []⟩) (h1 : OwnN w' b vN [⟨0, 0, 0, 0, 0⟩]) (h2 : w'.heap[g2]? = some (.cells #[.int .i64 (-1), .int .i64 (-1), .int .i64 0] 96 (0, 0))) (h3 : w'.heap[g3]? = some (.cells #[.string ⟨#[109, 97, 105, 110]⟩, .int .i64 0, .slice none 0 0] 98 (0, 0))) (hb : b ≤ g2 ∧ b ≤ g3) (d : g2 ≠ g3) (hn : ∀ k, vN.ownBlock = some k → k ≠ g2 ∧ k ≠ g3) :
    OwnHi w' b vN (.slice (some ⟨g2, 0, none⟩) 1 1) (.slice (some ⟨g3, 0, none⟩) 1 1) [⟨0, 0, 0, 0, 0⟩] [⟨-1, -1, 0⟩] 1 f (fun _ => .slice none 0 0) := by
  have hm : 1 ≤ maxLen := by simp [maxLen]
  refine ⟨h1, row_lit (xs := [.int .i64 (-1), .int .i64 (-1), .int .i64 0]) h2 hb.1 rfl hm, ⟨⟨_, row_lit (xs := [.string ⟨#[109, 97, 105, 110]⟩, .int .i64 0, .slice none 0 0]) h3 hb.2 rfl hm, ?_⟩, ?_, ?_, ?_⟩, ?_, ?_, ?_⟩
  · intro j hj
    obtain rfl : j = 0 := by omega
    rw [hf]; exact ⟨rfl, rfl, rfl⟩
  · intro j hj
    obtain rfl : j = 0 := by omega
    rw [hf]; exact World.ownsRow_nil _ _ _ _
  · intro j hj k e; cases e
  · intro i j hi hj hn; omega
  · intro k e e2; cases e2; exact (hn _ e).1 rfl
  · intro k e; exact ⟨fun e2 => by cases e2; exact (hn _ e).2 rfl, fun j hj e2 => by cases e2⟩
  · intro k e; cases e; exact ⟨fun e2 => by cases e2; exact d rfl, fun j hj e2 => by cases e2⟩
theorem two_new (w : World) (o0 o1 : Obj) : ((w.alloc o0).alloc o1).heap[w.heap.size]? = some o0 ∧ ((w.alloc o0).alloc o1).heap[w.heap.size + 1]? = some o1 := by
  have e := heap_alloc_new (w.alloc o0) o1
  have sz : (w.alloc o0).heap.size = w.heap.size + 1 := by simp
  rw [sz] at e
  exact ⟨(((Below.refl (w.alloc o0).heap.size (w.alloc o0)).alloc (Nat.le_refl _) o1).block _ (by simp)).trans (heap_alloc_new w o0), e⟩
set_option maxHeartbeats 2000000 in
theorem pHistNew_any (side : Int) (w : World) :
    Calls Try.prog 25 #[.int .i64 side] w fun e w' => HOut w w' (hS side) (hN side) (hV side) (hL side).length newF [] (hC side) e := by
  have hG := fun w => pGridNew_any side 0 w
  have HB0 : Hid (HB6 (w.alloc (.cells #[.int .i64 0, .slice none 0 0, .slice none 0 0, .slice none 0 0, .slice none 0 0, .int .i64 0] 59)) w.heap.size 0 (.slice none 0 0) (.slice none 0 0) (.slice none 0 0) (.slice none 0 0) 0) := ⟨by simp [go_sem], by simp [go_sem], by simp [go_sem], by simp [go_sem], by simp [go_sem], by simp [go_sem]⟩
  have HF0 : Hid (∀ i, (w.alloc (.cells #[.int .i64 0, .slice none 0 0, .slice none 0 0, .slice none 0 0, .slice none 0 0, .int .i64 0] 59)).frozen? ⟨w.heap.size, i, none⟩ = false) := fun i => by simp [go_sem]
  have hb0 : Below w.heap.size w (w.alloc (.cells #[.int .i64 0, .slice none 0 0, .slice none 0 0, .slice none 0 0, .slice none 0 0, .int .i64 0] 59)) := (Below.refl _ _).alloc (Nat.le_refl _) _
  have HBW := Lib.hid hb0
  cases hs : sideOk side
  · have e : hS side = 0 ∧ hN side = [] ∧ hV side = [] ∧ hL side = [] ∧ hC side = 1 := by simp [hS, hN, hV, hL, hC, hs]
    rw [e.1, e.2.1, e.2.2.1, e.2.2.2.1, e.2.2.2.2]
    have e2 : newSide side 0 = 0 ∧ newTiles side 0 = [] ∧ newCode side 0 = 1 := by simp [newSide, newTiles, newCode, hs]
    rw [e2.1, e2.2.1, e2.2.2] at hG
    clear e e2 hs hb0
    go_enter Try.func25, Try.ntmps25
    go_wp2_with fail
    refine (hG _).mono ?_
    rintro e w1 ⟨A, c, rfl, ho, hb⟩
    have hz : w.heap.size < w1.heap.size := by have := hb.size; simp at this; omega
    have hbA : Below w1.heap.size w1 (w1.alloc (.cells #[.int .i64 0, .slice A ([] : List Int).length c, .int .i64 1] 100)) := (Below.refl _ _).alloc (Nat.le_refl _) _
    have c0 := (HB0.out.below hb (by simp)).below hbA hz
    have f0 : ∀ i, (w1.alloc (.cells #[.int .i64 0, .slice A ([] : List Int).length c, .int .i64 1] 100)).frozen? ⟨w.heap.size, i, none⟩ = false := fun i => (hbA.frozen (p := ⟨w.heap.size, i, none⟩) hz).trans ((hb.frozen (p := ⟨w.heap.size, i, none⟩) (by simp)).trans (HF0.out i))
    have HB := Lib.hid ((HBW.out.trans (hb.mono (by simp))).trans (hbA.mono (by omega)))
    have hx2 : (w1.alloc (.cells #[.int .i64 0, .slice A ([] : List Int).length c, .int .i64 1] 100)).cell? ⟨w1.heap.size, 2, none⟩ = some (.int .i64 1) := by simp [go_sem]
    obtain ⟨c0, c1, c2, c3, c4, c5⟩ := c0
    have g0 := f0 0; have g1 := f0 1; have g2 := f0 2; have g3 := f0 3; have g4 := f0 4; have g5 := f0 5
    clear hb ho f0 hG HB0 HF0 hbA
    go_upto_region 2 with fail
    generalize w1.alloc (.cells #[.int .i64 0, .slice A ([] : List Int).length c, .int .i64 1] 100) = W1 at *
    have hne : ¬ w.heap.size = w1.heap.size := by omega
    have hne2 : ¬ w1.heap.size = w.heap.size := by omega
    generalize w1.heap.size = q1 at *
    go_wp2
    refine bodyPost_ret (v := .agg #[.int .i64 0, .slice none 0 0, .slice none 0 0, .slice none 0 0, .slice none 0 0, .int .i64 1]) (by simp [results, Try.results25, go_sem, c0, c1, c2, c3, c4, c5]) rfl ?_
    refine HOut.none_ _ _ _ _ ?_
    repeat (refine Below.setCell ?_ (by dsimp only; omega) _)
    exact HB.out
  · have e : hS side = side ∧ hN side = [⟨0, 0, 0, 0, 0⟩] ∧ hV side = [⟨-1, -1, 0⟩] ∧ hL side = [0] ∧ hC side = 0 := by simp [hS, hN, hV, hL, hC, hs]
    rw [e.1, e.2.1, e.2.2.1, e.2.2.2.1, e.2.2.2.2]
    have ht : tileOk 0 = true := rfl
    have e2 : newSide side 0 = side ∧ newTiles side 0 = List.replicate (side * side).toNat 0 ∧ newCode side 0 = 0 := by simp [newSide, newTiles, newCode, hs, ht]
    rw [e2.1, e2.2.1, e2.2.2] at hG
    have hlen : (List.replicate (side * side).toNat (0 : Int)).length ≤ 1048576 := by rcases (sideOk_iff side).1 hs with rfl | rfl | rfl | rfl <;> simp
    have hP := fun cg A' w h => pPoolPut_nil cg side A' (List.replicate (side * side).toNat 0) w h hlen
    rw [put_zero hs] at hP
    clear e e2 hs hb0 ht
    generalize List.replicate (side * side).toNat (0 : Int) = tiles at *
    go_enter Try.func25, Try.ntmps25
    go_wp2_with fail
    refine (hG _).mono ?_
    rintro e w1 ⟨A, c, rfl, ho, hb⟩
    have hz : w.heap.size < w1.heap.size := by have := hb.size; simp at this; omega
    have hbA : Below w1.heap.size w1 (w1.alloc (.cells #[.int .i64 side, .slice A tiles.length c, .int .i64 0] 100)) := (Below.refl _ _).alloc (Nat.le_refl _) _
    have HRI := Lib.hid ((ho.ri.below hbA).mono hbA.size)
    have HB := Lib.hid ((HBW.out.trans (hb.mono (by simp))).trans (hbA.mono (by omega)))
    have HC := Lib.hid ((HB0.out.below hb (by simp)).below hbA hz)
    have HF : Hid (∀ i, (w1.alloc (.cells #[.int .i64 side, .slice A tiles.length c, .int .i64 0] 100)).frozen? ⟨w.heap.size, i, none⟩ = false) := fun i => (hbA.frozen (p := ⟨w.heap.size, i, none⟩) hz).trans ((hb.frozen (p := ⟨w.heap.size, i, none⟩) (by simp)).trans (HF0.out i))
    have HZ : Hid (w.heap.size < (w1.alloc (.cells #[.int .i64 side, .slice A tiles.length c, .int .i64 0] 100)).heap.size) := by show _ < _; simp; omega
    clear hb ho hbA hG HB0 HF0 HBW
    go_wp2_with fail
    generalize w1.alloc (.cells #[.int .i64 side, .slice A tiles.length c, .int .i64 0] 100) = W1 at *
    refine (hP _ _ _ HRI.out).mono ?_
    rintro e w2 ⟨A2, c2, rfl, ho2, hb2⟩
    have HO := Lib.hid ho2
    have c0 := HC.out.below hb2 HZ.out
    have f0 : ∀ i, w2.frozen? ⟨w.heap.size, i, none⟩ = false := fun i => (hb2.frozen (p := ⟨w.heap.size, i, none⟩) HZ.out).trans (HF.out i)
    have HB2 := Lib.hid (HB.out.trans (hb2.mono (Nat.le_of_lt HZ.out)))
    have hz2 : w.heap.size < w2.heap.size := Nat.lt_of_lt_of_le HZ.out hb2.size
    have hz3 : W1.heap.size ≤ w2.heap.size := hb2.size
    have hzW := HZ.out
    obtain ⟨c0, c1, c2', c3, c4, c5⟩ := c0
    have g0 := f0 0; have g1 := f0 1; have g2 := f0 2; have g3 := f0 3; have g4 := f0 4; have g5 := f0 5
    clear hb2 ho2 f0 hP HC HF HZ HB HRI
    simp only [List.length_cons, List.length_nil, Nat.zero_add]
    have hx : Hid (OwnN (w2.alloc (.cells #[.slice A2 1 c2, .int .i64 0, .int .i64 0] 103)) W1.heap.size (.slice A2 1 c2) [⟨0, 0, 0, 0, 0⟩]) := HO.out.alloc _
    have hbA : Below w2.heap.size w2 (w2.alloc (.cells #[.slice A2 1 c2, .int .i64 0, .int .i64 0] 103)) := (Below.refl _ _).alloc (Nat.le_refl _) _
    have hx0 : (w2.alloc (.cells #[.slice A2 1 c2, .int .i64 0, .int .i64 0] 103)).cell? ⟨w2.heap.size, 0, none⟩ = some (.slice A2 1 c2) := by simp [go_sem]
    have hx1 : (w2.alloc (.cells #[.slice A2 1 c2, .int .i64 0, .int .i64 0] 103)).cell? ⟨w2.heap.size, 1, none⟩ = some (.int .i64 0) := by simp [go_sem]
    have k0 := (hbA.cell (p := ⟨w.heap.size, 0, none⟩) hz2).trans c0
    have k1 := (hbA.cell (p := ⟨w.heap.size, 1, none⟩) hz2).trans c1
    have k2 := (hbA.cell (p := ⟨w.heap.size, 2, none⟩) hz2).trans c2'
    have k3 := (hbA.cell (p := ⟨w.heap.size, 3, none⟩) hz2).trans c3
    have k4 := (hbA.cell (p := ⟨w.heap.size, 4, none⟩) hz2).trans c4
    have k5 := (hbA.cell (p := ⟨w.heap.size, 5, none⟩) hz2).trans c5
    have m0 := (hbA.frozen (p := ⟨w.heap.size, 0, none⟩) hz2).trans g0
    have m1 := (hbA.frozen (p := ⟨w.heap.size, 1, none⟩) hz2).trans g1
    have m2 := (hbA.frozen (p := ⟨w.heap.size, 2, none⟩) hz2).trans g2
    have m3 := (hbA.frozen (p := ⟨w.heap.size, 3, none⟩) hz2).trans g3
    have m4 := (hbA.frozen (p := ⟨w.heap.size, 4, none⟩) hz2).trans g4
    have m5 := (hbA.frozen (p := ⟨w.heap.size, 5, none⟩) hz2).trans g5
    have HB3 := Lib.hid (HB2.out.trans (hbA.mono (by omega)))
    have hz4 : w.heap.size < (w2.alloc (.cells #[.slice A2 1 c2, .int .i64 0, .int .i64 0] 103)).heap.size := by simp; omega
    have hz5 : W1.heap.size ≤ (w2.alloc (.cells #[.slice A2 1 c2, .int .i64 0, .int .i64 0] 103)).heap.size := by simp; omega
    clear c0 c1 c2' c3 c4 c5 g0 g1 g2 g3 g4 g5 HB2 HO hbA
    go_upto_region 5 with fail
    generalize w2.alloc (.cells #[.slice A2 1 c2, .int .i64 0, .int .i64 0] 103) = W2 at *
    have hne : ¬ w.heap.size = w2.heap.size := by omega
    have hne2 : ¬ w2.heap.size = w.heap.size := by omega
    clear hz2 hz3
    generalize w2.heap.size = q2 at *
    go_wp2
    refine bodyPost_ret (v := .agg #[.int .i64 side, .slice A2 1 c2, .slice (some ⟨W2.heap.size, 0, none⟩) 1 1, .slice (some ⟨W2.heap.size + 1, 0, none⟩) 1 1, .slice none 0 0, .int .i64 0]) (by simp [results, Try.results25, go_sem, k0, k1, k2, k3, k4, k5, hz4]) rfl ?_
    clear k0 k1 k2 k3 k4 k5 m0 m1 m2 m3 m4 m5 hx0 hx1
    have hO : OwnN ((((((W2.setCell ⟨w.heap.size, 0, none⟩ (.int .i64 side)).setCell ⟨w.heap.size, 1, none⟩ (.slice A2 1 c2)).setCell ⟨w.heap.size, 2, none⟩ (.slice (some ⟨W2.heap.size, 0, none⟩) 1 1)).setCell ⟨w.heap.size, 3, none⟩ (.slice (some ⟨W2.heap.size + 1, 0, none⟩) 1 1)).setCell ⟨w.heap.size, 4, none⟩ (.slice none 0 0)).setCell ⟨w.heap.size, 5, none⟩ (.int .i64 0)) W1.heap.size (.slice A2 1 c2) [⟨0, 0, 0, 0, 0⟩] := by
      repeat (refine OwnN.set_below (by dsimp only; omega) _ ?_)
      exact hx.out
    have hB : Below w.heap.size w ((((((W2.setCell ⟨w.heap.size, 0, none⟩ (.int .i64 side)).setCell ⟨w.heap.size, 1, none⟩ (.slice A2 1 c2)).setCell ⟨w.heap.size, 2, none⟩ (.slice (some ⟨W2.heap.size, 0, none⟩) 1 1)).setCell ⟨w.heap.size, 3, none⟩ (.slice (some ⟨W2.heap.size + 1, 0, none⟩) 1 1)).setCell ⟨w.heap.size, 4, none⟩ (.slice none 0 0)).setCell ⟨w.heap.size, 5, none⟩ (.int .i64 0)) := by
      repeat (refine Below.setCell ?_ (by dsimp only; omega) _)
      exact HB3.out
    have hZ : ((((((W2.setCell ⟨w.heap.size, 0, none⟩ (.int .i64 side)).setCell ⟨w.heap.size, 1, none⟩ (.slice A2 1 c2)).setCell ⟨w.heap.size, 2, none⟩ (.slice (some ⟨W2.heap.size, 0, none⟩) 1 1)).setCell ⟨w.heap.size, 3, none⟩ (.slice (some ⟨W2.heap.size + 1, 0, none⟩) 1 1)).setCell ⟨w.heap.size, 4, none⟩ (.slice none 0 0)).setCell ⟨w.heap.size, 5, none⟩ (.int .i64 0)).heap.size = W2.heap.size := by simp
    generalize (((((W2.setCell ⟨w.heap.size, 0, none⟩ (.int .i64 side)).setCell ⟨w.heap.size, 1, none⟩ (.slice A2 1 c2)).setCell ⟨w.heap.size, 2, none⟩ (.slice (some ⟨W2.heap.size, 0, none⟩) 1 1)).setCell ⟨w.heap.size, 3, none⟩ (.slice (some ⟨W2.heap.size + 1, 0, none⟩) 1 1)).setCell ⟨w.heap.size, 4, none⟩ (.slice none 0 0)).setCell ⟨w.heap.size, 5, none⟩ (.int .i64 0) = WS at *
    have hn2 := two_new WS (.cells #[.int .i64 (-1), .int .i64 (-1), .int .i64 0] 96) (.cells #[.string ⟨#[109, 97, 105, 110]⟩, .int .i64 0, .slice none 0 0] 98)
    rw [hZ] at hn2
    have hbb : Below WS.heap.size WS ((WS.alloc (.cells #[.int .i64 (-1), .int .i64 (-1), .int .i64 0] 96)).alloc (.cells #[.string ⟨#[109, 97, 105, 110]⟩, .int .i64 0, .slice none 0 0] 98)) := ((Below.refl _ _).alloc (Nat.le_refl _) _).alloc (by simp) _
    refine ⟨A2, c2, some ⟨W2.heap.size, 0, none⟩, 1, some ⟨W2.heap.size + 1, 0, none⟩, 1, none, 0, fun _ => .slice none 0 0, rfl, OwnHi.newP rfl (OwnN.lower (by omega) (hO.keep hbb)) hn2.1 hn2.2 (by omega) (by omega) ?_, OwnCh.nil _ _, ?_, hB.trans (hbb.mono (by omega))⟩
    · intro k e
      have := hO.lt k e
      omega
    · intro k _ e; cases e
end Go.Proofs.Ytphkceiafehidaa
