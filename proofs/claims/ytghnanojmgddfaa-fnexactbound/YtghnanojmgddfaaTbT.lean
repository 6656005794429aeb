/- Tables that come in by value: opened, measured, converted. -/
import Derived.Test.YtghnanojmgddfaaTbW
import Derived.Test.YtghnanojmgddfaaWyB
import Derived.Test.YtghnanojmgddfaaItPl
namespace Go.Proofs.Ytghnanojmgddfaa
open Go.ChangeShapes Go.WideShapes Go.ChangeAt Go.RowKit Go.Joins Go.Deep
set_option linter.unusedVariables false
set_option linter.unusedSimpArgs false

set_option maxRecDepth 100000 in
theorem rowPls {H : Type} {enc : TypeId × Value → H} {W : World} {base fuel : Nat} {v : Value} {x : DataW H × List MemPlace}
    (h0 : DataW.trod enc Try.prog W base (fun _ => true) true fuel 60 [v] = some x) :
    ∃ (a : Option Addr) (cap : Nat) (l : List Pl), v = .slice a l.length cap ∧ RPl W W.heap.size a l ∧ l.length ≤ maxLen ∧ ∀ n ∈ l, n.Fits := by
  rcases open_slice Try.underlying60 h0 with ⟨hcs, _⟩ | ⟨a, len, cap, m, k, D, Ps, hcs, _, hl, hm, hmm, _, hel⟩
  · simp at hcs
    subst hcs
    exact ⟨none, 0, [], rfl, .inl rfl, by simp, by simp⟩
  · simp at hcs
    subst hcs
    simp only [if_true] at hmm
    subst hmm
    have hn : ∀ i, i < len → ∃ n : Pl, n.Fits ∧ ∀ j, j < 2 → W.cell? (a.add (i * 2 + j)) = (n.val.cells.toList)[j]? := by
      intro i hi
      obtain ⟨cs', h1, h2⟩ := hel i (by omega)
      obtain ⟨n, rfl, hw⟩ := openPl h2
      refine ⟨n, hw, fun j hj => ?_⟩
      rw [cellsPl] at h1
      have hc := (World.cells?_some h1).2.2 j hj
      rw [add_add] at hc
      rw [hc]
      simp [Pl.val, Value.cells]
    haveI : Inhabited Pl := ⟨⟨0, 0⟩⟩
    obtain ⟨f, hfn⟩ := choose_lt hn
    refine ⟨some a, _, (List.range len).map f, by simp; rfl, ?_, by simp; omega, fun n hn => ?_⟩
    · by_cases hz : len = 0
      · left; subst hz; rfl
      · right
        have h00 := (hfn 0 (by omega)).2 0 (by omega)
        simp [Pl.val, Value.cells] at h00
        obtain ⟨b, off, spot⟩ := a
        have hs : spot = none := by simpa [Addr.add] using World.cell?_spot h00
        subst hs
        have hb := World.block_lt_of_cell? W _ h00
        refine ⟨b, off, rfl, by simpa [Addr.add] using hb, fun j hj => ?_⟩
        simp at hj
        have e : ∀ i, (⟨b, off, none⟩ : Addr).add i = ⟨b, off + i, none⟩ := fun i => by unfold Addr.add; split <;> simp_all
        have hj' := (hfn j hj).2
        simp only [e, ← Nat.add_assoc] at hj'
        simp only [List.getElem_map, List.getElem_range]
        exact ⟨hj' 0 (by omega), hj' 1 (by omega)⟩
    · obtain ⟨i, hi, rfl⟩ := List.mem_map.1 hn
      exact (hfn i (by simpa using hi)).1
theorem rowIs {H : Type} {enc : TypeId × Value → H} {W : World} {base fuel : Nat} {v : Value} {x : DataW H × List MemPlace}
    (h1 : DataW.trod enc Try.prog W base (fun _ => true) true fuel 23 [v] = some x) :
    ∃ (a : Option Addr) (cap : Nat) (l : List Int), v = .slice a l.length cap ∧ RI W W.heap.size a l ∧ l.length ≤ maxLen ∧ ∀ n ∈ l, (Lit.int .i64 n).wf = true := by
  rcases open_ints Try.underlying23 Try.underlying2 (by kernel_rfl) h1 with ⟨hcs, _⟩ | ⟨x, l, c, zs, hcs, _, hl, hm, hz, _, hcell, hwz⟩
  · simp at hcs
    subst hcs
    exact ⟨none, 0, [], rfl, .inl rfl, by simp, by simp⟩
  · simp at hcs
    subst hcs
    simp only [if_true] at hz
    have hlen : (zs.take l).length = l := by rw [List.length_take]; omega
    refine ⟨some x, c, zs.take l, by rw [hlen], ?_, by omega, fun n hn => hwz n (List.mem_of_mem_take hn)⟩
    by_cases h0 : l = 0
    · left; subst h0; simp
    · right
      have h00 := hcell 0 (by omega)
      obtain ⟨b, off, spot⟩ := x
      have hs : spot = none := by simpa [Addr.add] using World.cell?_spot h00
      subst hs
      have hb := World.block_lt_of_cell? W _ h00
      refine ⟨b, off, rfl, by simpa [Addr.add] using hb, fun j hj => ?_⟩
      rw [hlen] at hj
      have hj' := hcell j (by omega)
      have e : (⟨b, off, none⟩ : Addr).add j = ⟨b, off + j, none⟩ := by unfold Addr.add; split <;> simp_all
      rw [← e, hj', List.getElem_take]
      simp [List.getD, show j < zs.length by omega]
def InTab (W : World) (a : Option Addr) (l : List Pl) (b : Option Addr) (d : List Int) : Prop := (RPl W W.heap.size a l ∧ l.length ≤ maxLen ∧ ∀ n ∈ l, n.Fits) ∧ RI W W.heap.size b d ∧ d.length ≤ maxLen ∧ ∀ n ∈ d, (Lit.int .i64 n).wf = true
set_option maxRecDepth 100000 in
theorem open_tables {H : Type} {enc : TypeId × Value → H} {W : World} {r : Reach} {b0 base : Nat} {v : Value} {d : DataW H} {p : List MemPlace}
    (hv : Value.okWide Try.prog W r b0 62 v) (h : DataW.Trod enc Try.prog W base (fun _ => true) true 62 v d p) :
    ∃ (a : Option Addr) (cap : Nat) (l : List Pl) (b : Option Addr) (cap' : Nat) (m : List Int), v = .agg #[.slice a l.length cap, .slice b m.length cap'] ∧ InTab W a l b m := by
  obtain ⟨v0, v1, y0, y1, n, rfl, rfl, rfl, h0, h1⟩ := open_agg2 Try.underlying62 (by kernel_rfl) (by kernel_rfl) hv h
  obtain ⟨a, c, l, rfl, k1, k2, k3⟩ := rowPls h0
  obtain ⟨b, c', m, rfl, k4, k5, k6⟩ := rowIs h1
  exact ⟨a, c, l, b, c', m, rfl, ⟨k1, k2, k3⟩, k4, k5, k6⟩

theorem szTables_any (A : Option Addr) (n c : Nat) (D : Option Addr) (m d : Nat) (left : Int) (w : World) (hn : n ≤ 9223372036854775807) (hm : m ≤ 9223372036854775807) (h0 : 0 ≤ left) (h1 : left ≤ 1048576) :
    Calls Try.prog 34 #[.agg #[.slice A n c, .slice D m d], .int .i64 left] w fun e w' => e = .returned (.int .i64 (if (n : Int) + m ≤ left then left - n - m else -1)) ∧ Below w.heap.size w w' := by
  have hs1 := fun w => szPls A n c left w hn h0 h1
  have hb : Below w.heap.size w (w.alloc (.cells #[.slice A n c, .slice D m d] 62)) := bel_A _ _
  by_cases h : (n : Int) ≤ left
  · rw [if_pos h] at hs1
    have hs2 := fun w => szInts D m d (left - n) w hm (by omega) (by omega)
    by_cases h2 : (m : Int) ≤ left - n
    · rw [if_pos h2] at hs2
      rw [if_pos (by omega)]
      go_enter Try.func34, Try.ntmps34
      go_wp2_with fail
      refine (hs1 _).mono ?_
      rintro e w1 ⟨rfl, rfl⟩
      go_wp2_with fail
      refine (hs2 _).mono ?_
      rintro e w2 ⟨rfl, rfl⟩
      go_wp2_with fail
      go_ret
      exact ⟨rfl, hb⟩
    · rw [if_neg h2] at hs2
      rw [if_neg (by omega)]
      go_enter Try.func34, Try.ntmps34
      go_wp2_with fail
      refine (hs1 _).mono ?_
      rintro e w1 ⟨rfl, rfl⟩
      go_wp2_with fail
      refine (hs2 _).mono ?_
      rintro e w2 ⟨rfl, rfl⟩
      go_wp2_with fail
      go_ret
      exact ⟨rfl, hb⟩
  · rw [if_neg h] at hs1
    rw [if_neg (by omega)]
    go_enter Try.func34, Try.ntmps34
    go_wp2_with fail
    refine (hs1 _).mono ?_
    rintro e w1 ⟨rfl, rfl⟩
    go_wp2_with fail
    go_ret
    exact ⟨rfl, hb⟩

set_option maxRecDepth 100000 in
set_option maxHeartbeats 1000000 in
theorem toTables_any (A : Option Addr) (c : Nat) (T : List Pl) (D : Option Addr) (d : Nat) (L : List Int) (w : World) (h : RPl w w.heap.size A T) (k : RI w w.heap.size D L) (hT : T.length ≤ 1000000000) (hL : L.length ≤ 1000000000) :
    Calls Try.prog 35 #[.agg #[.slice A T.length c, .slice D L.length d]] w fun e w' => ∃ g1 g2, e = .returned (.agg #[.slice (some ⟨g1, 0, none⟩) T.length T.length, .slice (some ⟨g2, 0, none⟩) L.length L.length]) ∧ OwnPl w' w.heap.size (.slice (some ⟨g1, 0, none⟩) T.length T.length) T ∧ OwnI 2 .i64 w' w.heap.size (.slice (some ⟨g2, 0, none⟩) L.length L.length) L ∧ Below w.heap.size w w' := by
  have H := Lib.hid h
  have K := Lib.hid k
  clear h k
  obtain ⟨W0, HW⟩ : ∃ W0, W0 = (((w.alloc (.cells #[.slice A T.length c, .slice D L.length d] 62)).alloc (.cells #[.slice none 0 0, .slice none 0 0] 45)).alloc (.cells #[.slice none 0 0, .slice none 0 0] 45)) := ⟨_, rfl⟩
  have HF : Hid (TB W0 w.heap.size (.slice A T.length c) (.slice D L.length d) ∧ TB W0 (w.heap.size + 1) (.slice none 0 0) (.slice none 0 0) ∧ TB W0 (w.heap.size + 1 + 1) (.slice none 0 0) (.slice none 0 0) ∧ Below w.heap.size w W0 ∧ W0.heap.size = w.heap.size + 1 + 1 + 1) := by
    refine ⟨?_, ?_, ?_, by rw [HW]; exact bel_T (bel_A _ _) (bel_T (bel_A _ _) (bel_A _ _)), by rw [HW]; simp⟩ <;> rw [HW] <;> exact ⟨by simp [go_sem], by simp [go_sem], by simp [go_sem], by simp [go_sem]⟩
  have HT := Lib.hid (toPls_b A c T W0 ((H.out.below HF.out.2.2.2.1).mono HF.out.2.2.2.1.size) hT)
  obtain ⟨a0, a1, _, _⟩ := HF.out.1
  go_enter Try.func35, Try.ntmps35
  go_upto_region 2 with fail
  rw [← HW]
  clear HW
  go_wp2_with fail
  refine HT.out.mono ?_
  rintro e w1 ⟨g1, rfl, ho, hb⟩
  have hz := HF.out.2.2.2.2
  have HO1 := Lib.hid ho
  have HF1 : Hid (TB w1 w.heap.size (.slice A T.length c) (.slice D L.length d) ∧ TB w1 (w.heap.size + 1) (.slice none 0 0) (.slice none 0 0) ∧ TB w1 (w.heap.size + 1 + 1) (.slice none 0 0) (.slice none 0 0) ∧ Below w.heap.size w w1) := ⟨HF.out.1.below hb (by omega), HF.out.2.1.below hb (by omega), HF.out.2.2.1.below hb (by omega), bel_T HF.out.2.2.2.1 hb⟩
  have HZ1 : Hid (w.heap.size + 1 + 1 < w1.heap.size ∧ W0.heap.size = w.heap.size + 1 + 1 + 1) := ⟨by have := hb.size; omega, hz⟩
  clear ho hb HT HF a0 a1 hz
  obtain ⟨a0, a1, _, _⟩ := HF1.out.1
  obtain ⟨o0, o1, f0, f1⟩ := HF1.out.2.2.1
  go_upto_region 3 with fail
  have HB1 : Hid (Below w.heap.size w (w1.setCell ⟨w.heap.size + 1 + 1, 0, none⟩ (.slice (some ⟨g1, 0, none⟩) T.length T.length))) := HF1.out.2.2.2.setCell (by show w.heap.size ≤ w.heap.size + 1 + 1; omega) _
  have HT2 := Lib.hid (toInts D d L (w1.setCell ⟨w.heap.size + 1 + 1, 0, none⟩ (.slice (some ⟨g1, 0, none⟩) T.length T.length)) ((K.out.below HB1.out).mono HB1.out.size) hL)
  have HO1b := Lib.hid (OwnPl.set_below (a := ⟨w.heap.size + 1 + 1, 0, none⟩) (by have := HZ1.out.2; show w.heap.size + 1 + 1 < W0.heap.size; omega) (.slice (some ⟨g1, 0, none⟩) T.length T.length) HO1.out)
  have HR1 : Hid ((w1.setCell ⟨w.heap.size + 1 + 1, 0, none⟩ (.slice (some ⟨g1, 0, none⟩) T.length T.length)).cell? ⟨w.heap.size + 1, 0, none⟩ = some (.slice none 0 0) ∧ (w1.setCell ⟨w.heap.size + 1 + 1, 0, none⟩ (.slice (some ⟨g1, 0, none⟩) T.length T.length)).cell? ⟨w.heap.size + 1, 1, none⟩ = some (.slice none 0 0) ∧ (w1.setCell ⟨w.heap.size + 1 + 1, 0, none⟩ (.slice (some ⟨g1, 0, none⟩) T.length T.length)).frozen? ⟨w.heap.size + 1, 0, none⟩ = false ∧ (w1.setCell ⟨w.heap.size + 1 + 1, 0, none⟩ (.slice (some ⟨g1, 0, none⟩) T.length T.length)).frozen? ⟨w.heap.size + 1, 1, none⟩ = false ∧ TB (w1.setCell ⟨w.heap.size + 1 + 1, 0, none⟩ (.slice (some ⟨g1, 0, none⟩) T.length T.length)) (w.heap.size + 1 + 1) (.slice (some ⟨g1, 0, none⟩) T.length T.length) (.slice none 0 0)) := by
    obtain ⟨r0, r1, q0, q1⟩ := HF1.out.2.1
    exact ⟨by simp [go_sem, r0], by simp [go_sem, r1], by simpa using q0, by simpa using q1, by simp [go_sem, o0], by simp [go_sem, o1], by simpa using f0, by simpa using f1⟩
  have hn1 : ¬ w.heap.size = w.heap.size + 1 + 1 := by omega
  have HZ2 : Hid (w.heap.size + 1 + 1 < (w1.setCell ⟨w.heap.size + 1 + 1, 0, none⟩ (.slice (some ⟨g1, 0, none⟩) T.length T.length)).heap.size) := by show _ < _; simpa using HZ1.out.1
  go_wp2_with fail
  generalize w1.setCell ⟨w.heap.size + 1 + 1, 0, none⟩ (.slice (some ⟨g1, 0, none⟩) T.length T.length) = w2 at *
  clear a0 a1 o0 o1 f0 f1
  refine HT2.out.mono ?_
  rintro e w3 ⟨rfl, ho2, hb2⟩
  have HZ3 : Hid (w.heap.size + 1 + 1 < w2.heap.size ∧ w.heap.size ≤ w2.heap.size ∧ W0.heap.size = w.heap.size + 1 + 1 + 1) := ⟨HZ2.out, HB1.out.size, HZ1.out.2⟩
  have e1 := hb2.block (w.heap.size + 1) (by have := HZ3.out.1; omega)
  obtain ⟨q0, q1, q2, q3, hTB⟩ := HR1.out
  have r0 := (World.cell?_of_block (a := ⟨w.heap.size + 1, 0, none⟩) e1).trans q0
  have r1 := (World.cell?_of_block (a := ⟨w.heap.size + 1, 1, none⟩) e1).trans q1
  have r2 := (World.frozen?_of_block (a := ⟨w.heap.size + 1, 0, none⟩) e1).trans q2
  have r3 := (World.frozen?_of_block (a := ⟨w.heap.size + 1, 1, none⟩) e1).trans q3
  obtain ⟨o0, o1, f0, f1⟩ := hTB.below hb2 HZ3.out.1
  have HO2 := Lib.hid ho2
  have HO1c := Lib.hid (HO1b.out.keep hb2)
  have HB3 := Lib.hid (HB1.out.trans (hb2.mono HZ3.out.2.1))
  have hn2 : ¬ w.heap.size + 1 + 1 = w.heap.size + 1 := by omega
  clear hTB q0 q1 q2 q3 e1 ho2 hb2 HR1 HO1b HB1 HT2 HF1 HZ1 HZ2 HO1 H K
  go_wp2_with fail
  refine bodyPost_ret (v := .agg #[.slice (some ⟨g1, 0, none⟩) T.length T.length, .slice (some ⟨w2.heap.size, 0, none⟩) L.length L.length]) (by simp [results, Try.results35, go_sem, r0, r1]) rfl ?_
  refine ⟨g1, w2.heap.size, rfl, ?_, ?_, ((HB3.out.setCell (by show w.heap.size ≤ w.heap.size + 1 + 1; omega) _).setCell (by show w.heap.size ≤ w.heap.size + 1; omega) _).setCell (by show w.heap.size ≤ w.heap.size + 1; omega) _⟩
  · have hz := HZ3.out.2.2
    exact OwnPl.lower (by omega) (OwnPl.set_below (by show w.heap.size + 1 < W0.heap.size; omega) _ (OwnPl.set_below (by show w.heap.size + 1 < W0.heap.size; omega) _ (OwnPl.set_below (by show w.heap.size + 1 + 1 < W0.heap.size; omega) _ HO1c.out)))
  · have hz := HZ3.out.1
    exact OwnI.lower (by omega) (OwnI.set_below (by show w.heap.size + 1 < w2.heap.size; omega) _ (OwnI.set_below (by show w.heap.size + 1 < w2.heap.size; omega) _ (OwnI.set_below (by show w.heap.size + 1 + 1 < w2.heap.size; omega) _ HO2.out)))
end Go.Proofs.Ytghnanojmgddfaa
