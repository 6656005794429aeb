/- The program's pools: the tile below a node. -/
import Derived.Test.YtoobkajilbmdhaaDoorTlT
import Derived.Test.YtoobkajilbmdhaaDoorPgH
import Derived.Deep.RegionHeld3
namespace Go.Proofs.YtoobkajilbmdhaaDoor
open Go.RowKit
set_option linter.unusedVariables false
set_option linter.unusedSimpArgs false

theorem NdAt.parts5 {w : World} {b o : Nat} {n : Nd} (h : NdAt w b o n) : w.cell? ⟨b, o, none⟩ = some (.int .i64 n.tile) ∧ w.cell? ⟨b, o + 1, none⟩ = some (.int .i64 n.a) ∧ w.cell? ⟨b, o + 2, none⟩ = some (.int .i64 n.b) ∧ w.cell? ⟨b, o + 3, none⟩ = some (.int .i64 n.c) ∧ w.cell? ⟨b, o + 4, none⟩ = some (.int .i64 n.d) := ⟨h.c0, h.c1, h.c2, h.c3, h.c4⟩
/-- Block q holds the node n, to be written over. -/
structure NB (w : World) (q : Nat) (n : Nd) : Prop where
  c0 : w.cell? ⟨q, 0, none⟩ = some (.int .i64 n.tile)
  c1 : w.cell? ⟨q, 1, none⟩ = some (.int .i64 n.a)
  c2 : w.cell? ⟨q, 2, none⟩ = some (.int .i64 n.b)
  c3 : w.cell? ⟨q, 3, none⟩ = some (.int .i64 n.c)
  c4 : w.cell? ⟨q, 4, none⟩ = some (.int .i64 n.d)
  f0 : w.frozen? ⟨q, 0, none⟩ = false
  f1 : w.frozen? ⟨q, 1, none⟩ = false
  f2 : w.frozen? ⟨q, 2, none⟩ = false
  f3 : w.frozen? ⟨q, 3, none⟩ = false
  f4 : w.frozen? ⟨q, 4, none⟩ = false
theorem NB.at_ {w w' : World} {q : Nat} {n : Nd} (h : NB w q n) (e : w'.heap[q]? = w.heap[q]?) : NB w' q n :=
  ⟨(World.cell?_of_block (a := ⟨q, 0, none⟩) e).trans h.c0, (World.cell?_of_block (a := ⟨q, 1, none⟩) e).trans h.c1, (World.cell?_of_block (a := ⟨q, 2, none⟩) e).trans h.c2, (World.cell?_of_block (a := ⟨q, 3, none⟩) e).trans h.c3, (World.cell?_of_block (a := ⟨q, 4, none⟩) e).trans h.c4,
   (World.frozen?_of_block (a := ⟨q, 0, none⟩) e).trans h.f0, (World.frozen?_of_block (a := ⟨q, 1, none⟩) e).trans h.f1, (World.frozen?_of_block (a := ⟨q, 2, none⟩) e).trans h.f2, (World.frozen?_of_block (a := ⟨q, 3, none⟩) e).trans h.f3, (World.frozen?_of_block (a := ⟨q, 4, none⟩) e).trans h.f4⟩
theorem NB.made (w : World) (n : Nd) (t : TypeId) : NB (w.alloc (.cells #[.int .i64 n.tile, .int .i64 n.a, .int .i64 n.b, .int .i64 n.c, .int .i64 n.d] t)) w.heap.size n :=
  ⟨by simp [go_sem], by simp [go_sem], by simp [go_sem], by simp [go_sem], by simp [go_sem], by simp [go_sem], by simp [go_sem], by simp [go_sem], by simp [go_sem], by simp [go_sem]⟩
/-- The node in box q is written over. -/
def putB (w : World) (q : Nat) (n : Nd) : World := ((((w.setCell ⟨q, 0, none⟩ (.int .i64 n.tile)).setCell ⟨q, 1, none⟩ (.int .i64 n.a)).setCell ⟨q, 2, none⟩ (.int .i64 n.b)).setCell ⟨q, 3, none⟩ (.int .i64 n.c)).setCell ⟨q, 4, none⟩ (.int .i64 n.d)
theorem NB.put {w : World} {q : Nat} {m : Nd} (h : NB w q m) (n : Nd) : NB (putB w q n) q n := by
  unfold putB
  refine ⟨?_, ?_, ?_, ?_, ?_, by simpa using h.f0, by simpa using h.f1, by simpa using h.f2, by simpa using h.f3, by simpa using h.f4⟩
  · rw [World.cell?_setCell_other _ _ _ _ (by simp), World.cell?_setCell_other _ _ _ _ (by simp), World.cell?_setCell_other _ _ _ _ (by simp), World.cell?_setCell_other _ _ _ _ (by simp)]
    exact World.cell?_setCell_same _ _ _ h.c0
  · rw [World.cell?_setCell_other _ _ _ _ (by simp), World.cell?_setCell_other _ _ _ _ (by simp), World.cell?_setCell_other _ _ _ _ (by simp)]
    exact World.cell?_setCell_same _ _ _ ((World.cell?_setCell_other _ _ _ _ (by simp)).trans h.c1)
  · rw [World.cell?_setCell_other _ _ _ _ (by simp), World.cell?_setCell_other _ _ _ _ (by simp)]
    exact World.cell?_setCell_same _ _ _ ((World.cell?_setCell_other _ _ _ _ (by simp)).trans ((World.cell?_setCell_other _ _ _ _ (by simp)).trans h.c2))
  · rw [World.cell?_setCell_other _ _ _ _ (by simp)]
    exact World.cell?_setCell_same _ _ _ ((World.cell?_setCell_other _ _ _ _ (by simp)).trans ((World.cell?_setCell_other _ _ _ _ (by simp)).trans ((World.cell?_setCell_other _ _ _ _ (by simp)).trans h.c3)))
  · exact World.cell?_setCell_same _ _ _ ((World.cell?_setCell_other _ _ _ _ (by simp)).trans ((World.cell?_setCell_other _ _ _ _ (by simp)).trans ((World.cell?_setCell_other _ _ _ _ (by simp)).trans ((World.cell?_setCell_other _ _ _ _ (by simp)).trans h.c4))))
/-- The way down of the program: the node stands in box w.heap.size. -/
structure TB (w : World) (A : Option Addr) (l : List Nd) (n : Nd) (wr : World) : Prop where
  bx : NB wr w.heap.size n
  ri : RN wr w.heap.size A l
  bel : Below w.heap.size w wr
  siz : w.heap.size < wr.heap.size
theorem TB.below {w : World} {A : Option Addr} {l : List Nd} {n : Nd} {wr wr' : World} (h : TB w A l n wr) (hb : Below wr.heap.size wr wr') : TB w A l n wr' :=
  ⟨h.bx.at_ (hb.block _ h.siz), h.ri.below (hb.mono (Nat.le_of_lt h.siz)), h.bel.trans (hb.mono (Nat.le_of_lt h.siz)), Nat.lt_of_lt_of_le h.siz hb.size⟩
theorem TB.put {w : World} {A : Option Addr} {l : List Nd} {n : Nd} {wr : World} (h : TB w A l n wr) (m : Nd) : TB w A l m (putB wr w.heap.size m) := by
  have hb : Below w.heap.size wr (putB wr w.heap.size m) := (((((Below.refl w.heap.size wr).setCell (by simp) _).setCell (by simp) _).setCell (by simp) _).setCell (by simp) _).setCell (by simp) _
  exact ⟨h.bx.put m, h.ri.below hb, h.bel.trans hb, by have := h.siz; simpa [putB] using this⟩
/-- The state of the program's way down. -/
def TbRel (w : World) (A : Option Addr) (l : List Nd) (t : Int) (size x y : Value) (wr : World) : Prop :=
  ∃ d k i j : Nat, ∃ hk : k < l.length, size = .int .i64 ((2 ^ d : Nat) : Int) ∧ x = .int .i64 i ∧ y = .int .i64 j ∧ d ≤ 3 ∧ (hts l).getD k 0 ≤ d ∧ i < 2 ^ d ∧ j < 2 ^ d ∧ tileN l d k i j = t ∧ TB w A l l[k] wr

set_option maxRecDepth 100000 in
set_option maxHeartbeats 4000000 in
theorem pTileBelow_any (A : Option Addr) (c : Nat) (l : List Nd) (w : World) (h : RN w w.heap.size A l) (hr : poolRight l = true) (d k i j : Nat) (hd : d ≤ 3) (hk : k < l.length) (hh : (hts l).getD k 0 ≤ d) (hi : i < 2 ^ d) (hj : j < 2 ^ d) :
    Calls Tryd.prog 94 #[.slice A l.length c, .int .i64 k, .int .i64 ((2 ^ d : Nat) : Int), .int .i64 i, .int .i64 j] w fun e w' => e = .returned (.int .i64 (tileN l d k i j)) ∧ Below w.heap.size w w' := by
  have HR := Lib.hid hr
  have H := Lib.hid h
  obtain ⟨b, off, rfl, hbl, hn⟩ := h.at_ hk
  have k1 : (k : Int) < (l.length : Int) := by omega
  have HREL : Hid (TbRel w (some ⟨b, off, none⟩) l (tileN l d k i j) (.int .i64 ((2 ^ d : Nat) : Int)) (.int .i64 i) (.int .i64 j) (w.alloc (.cells #[.int .i64 l[k].tile, .int .i64 l[k].a, .int .i64 l[k].b, .int .i64 l[k].c, .int .i64 l[k].d] 84))) :=
    ⟨d, k, i, j, hk, rfl, rfl, rfl, hd, hh, hi, hj, rfl, NB.made _ _ _, h.below ((Below.refl _ _).alloc (Nat.le_refl _) _), (Below.refl _ _).alloc (Nat.le_refl _) _, by simp⟩
  clear h hr hd hh hi hj
  generalize tileN l d k i j = t at *
  generalize l[k] = n at *
  obtain ⟨nt, na, nb, nc, nd⟩ := n
  obtain ⟨d0, d1, d2, d3, d4⟩ := hn
  simp only at d0 d1 d2 d3 d4 HREL
  go_enter Tryd.func94, Tryd.ntmps94
  go_wp2_with fail
  clear d0 d1 d2 d3 d4
  go_loopw [2, 3, 4] (fun size x y wr => TbRel w (some ⟨b, off, none⟩) l t size x y wr) (fun size _ _ _ => (intOf size).toNat)
  case atStart => exact HREL.out
  case round =>
    obtain ⟨d, k, i, j, hk, rfl, rfl, rfl, hd, hh, hi, hj, ht, htb⟩ := hrel
    have HTB := Lib.hid htb
    have HTT := Lib.hid ht
    have HHH := Lib.hid hh
    have hSp := pSplit_any l[k]
    have hQr := pQuarters_any l[k]
    have hrs := right_sp HR.out hk
    clear HREL ht hh htb
    cases hlf : leafN l[k]
    · rw [hlf] at hrs
      have hsp : isSp l[k] = true := by simpa using hrs.symm
      rw [hsp] at hSp
      obtain ⟨e, rfl, hq1, hq2, hq3⟩ := tile_down (x := i) (y := j) HR.out hk hlf HHH.out
      obtain ⟨q0, qa, qb, qc, qd⟩ := ok_split (right_node HR.out hk) hlf
      have HED : Hid (e ≤ 3) := by show _ ≤ _; omega
      have HX1 : Hid (i % 2 ^ e < 2 ^ e) := Nat.mod_lt _ Nat.one_le_two_pow
      have HY1 : Hid (j % 2 ^ e < 2 ^ e) := Nat.mod_lt _ Nat.one_le_two_pow
      have HQ3 : Hid (tileN l e (quarter l[k] (2 ^ e) i j) (i % 2 ^ e) (j % 2 ^ e) = t) := hq3.symm.trans HTT.out
      have HQ1 := Lib.hid hq1
      have HQ2 := Lib.hid hq2
      have he : e = 0 ∨ e = 1 ∨ e = 2 := by omega
      clear hq1 hq2 hq3 q0 hlf HTT HHH hd hrs hsp
      generalize l[k] = n at *
      obtain ⟨nt, na, nb, nc, nd⟩ := n
      simp only at qa qb qc qd
      obtain ⟨ia, rfl⟩ := Int.eq_ofNat_of_zero_le qa.1
      obtain ⟨ib, rfl⟩ := Int.eq_ofNat_of_zero_le qb.1
      obtain ⟨ic, rfl⟩ := Int.eq_ofNat_of_zero_le qc.1
      obtain ⟨id, rfl⟩ := Int.eq_ofNat_of_zero_le qd.1
      unfold Nd.val at hSp hQr
      unfold qV at hQr
      simp only at hSp hQr
      rcases he with rfl | rfl | rfl
      · simp only [Nat.reduceAdd, Nat.reducePow] at *
        have i8 : (i : Int) < 2 := by omega
        have j8 : (j : Int) < 2 := by omega
        by_cases h1 : 1 ≤ i
        · by_cases h2 : 1 ≤ j
          · obtain rfl : i = 1 := by omega
            obtain rfl : j = 1 := by omega
            skip
            have HQ : Hid (quarter (⟨nt, ia, ib, ic, id⟩ : Nd) 1 1 1 = id) := by show _ = _; simp [quarter, h1, h2]
            rw [HQ.out] at HQ1 HQ2 HQ3
            have hm : id < l.length := by have := HQ1.out; omega
            have hdx : ((1 : Nat) : Int) / 1 = 1 := by omega
            have hdy : ((1 : Nat) : Int) / 1 = 1 := by omega
            have hix := fun w => index_quad3 (ia : Int) ib ic id w
            have hmi : (id : Int) < (l.length : Int) := by omega
            obtain ⟨c0, c1, c2, c3, c4, f0, f1, f2, f3, f4⟩ := HTB.out.bx
            simp only at c0 c1 c2 c3 c4
            go_wp2_with fail
            refine (hSp _).mono ?_
            rintro e w1 ⟨rfl, hb1⟩
            have HT1 := Lib.hid (HTB.out.below hb1)
            clear hb1 c0 c1 c2 c3 c4 f0 f1 f2 f3 f4
            obtain ⟨c0, c1, c2, c3, c4, f0, f1, f2, f3, f4⟩ := HT1.out.bx
            simp only at c0 c1 c2 c3 c4
            obtain ⟨b', off', heq, hbl', hnm⟩ := HT1.out.ri.at_ hm
            simp only [Option.some.injEq, Addr.mk.injEq, and_true] at heq
            obtain ⟨rfl, rfl⟩ := heq
            have HNM := Lib.hid hnm
            have HPUT := Lib.hid (fun wr (h : TB w (some ⟨b, off, none⟩) l ⟨nt, ia, ib, ic, id⟩ wr) => h.put l[id])
            generalize hme : l[id] = m at *
            have HME := Lib.hid hme
            clear hme
            obtain ⟨mt, ma, mb, mc, md⟩ := m
            obtain ⟨e0, e1, e2, e3, e4⟩ := hnm
            simp only at e0 e1 e2 e3 e4
            have hqb : ¬ w.heap.size = b := by omega
            have hw0 : IntKind.i64.wrap 0 = 0 := by decide
            have hw1 : IntKind.i64.wrap 1 = 1 := by decide
            have hw2 : IntKind.i64.wrap 2 = 2 := by decide
            have hw3 : IntKind.i64.wrap 3 = 3 := by decide
            go_wp2_with fail
            refine wp_region_noPanic ?_
            refine wp_region_held_drew (S := (fun w' => w'.cell? ⟨b, off + id * 5, none⟩ = some (.int .i64 mt) ∧ w'.cell? ⟨b, off + id * 5 + 1, none⟩ = some (.int .i64 ma) ∧ w'.cell? ⟨b, off + id * 5 + 2, none⟩ = some (.int .i64 mb) ∧ w'.cell? ⟨b, off + id * 5 + 3, none⟩ = some (.int .i64 mc) ∧ w'.cell? ⟨b, off + id * 5 + 4, none⟩ = some (.int .i64 md))) (by kernel_rfl) ⟨e0, e1, e2, e3, e4⟩ (fun hHeld => ?_)
            refine wpAnyH_take (i := 0) (v := ?v1x1) rfl (by kernel_rfl) (by kernel_rfl) (by kernel_rfl) (fun _ _ _ h => h) (Or.inl ⟨by rfl, ?hy1x1⟩) (by assumption) ?rest1x1
            case hy1x1 => (intro w' hSw; (try dsimp only at hSw); go_simp <;> with_reducible rfl)
            simp only [Act.put, List.setIfInBounds_toArray, List.set_cons_zero, List.set_cons_succ]
            refine wpAnyH_take (i := 3) (v := ?v1x2) rfl (by kernel_rfl) (by kernel_rfl) (by kernel_rfl) (fun _ _ _ h => h) (Or.inl ⟨by rfl, ?hy1x2⟩) (by assumption) ?rest1x2
            case hy1x2 => (intro w' hSw; (try dsimp only at hSw); go_simp <;> with_reducible rfl)
            simp only [Act.put, List.setIfInBounds_toArray, List.set_cons_zero, List.set_cons_succ]
            refine wpAnyH_take (i := 4) (v := ?v1x3) rfl (by kernel_rfl) (by kernel_rfl) (by kernel_rfl) (fun _ _ _ h => h) (Or.inl ⟨by rfl, ?hy1x3⟩) (by assumption) ?rest1x3
            case hy1x3 => (intro w' hSw; (try dsimp only at hSw); go_simp <;> with_reducible rfl)
            simp only [Act.put, List.setIfInBounds_toArray, List.set_cons_zero, List.set_cons_succ]
            refine wpAnyH_take (i := 5) (v := ?v1x4) rfl (by kernel_rfl) (by kernel_rfl) (by kernel_rfl) (fun _ _ _ h => h) (Or.inl ⟨by rfl, ?hy1x4⟩) (by assumption) ?rest1x4
            case hy1x4 => (intro w' hSw; (try dsimp only at hSw); go_simp <;> with_reducible rfl)
            simp only [Act.put, List.setIfInBounds_toArray, List.set_cons_zero, List.set_cons_succ]
            refine wpAnyH_take (i := 6) (v := ?v1x5) rfl (by kernel_rfl) (by kernel_rfl) (by kernel_rfl) (fun _ _ _ h => h) (Or.inl ⟨by rfl, ?hy1x5⟩) (by assumption) ?rest1x5
            case hy1x5 => (intro w' hSw; (try dsimp only at hSw); go_simp <;> with_reducible rfl)
            simp only [Act.put, List.setIfInBounds_toArray, List.set_cons_zero, List.set_cons_succ]
            refine wpAnyH_take (i := 7) (v := ?v1x6) rfl (by kernel_rfl) (by kernel_rfl) (by kernel_rfl) (fun _ _ _ h => h) (Or.inl ⟨by rfl, ?hy1x6⟩) (by assumption) ?rest1x6
            case hy1x6 => (intro w' hSw; (try dsimp only at hSw); go_simp <;> with_reducible rfl)
            simp only [Act.put, List.setIfInBounds_toArray, List.set_cons_zero, List.set_cons_succ]
            refine wpAnyH_take (i := 8) (v := ?v1x7) rfl (by kernel_rfl) (by kernel_rfl) (by kernel_rfl) (fun _ _ _ h => h) (Or.inl ⟨by rfl, ?hy1x7⟩) (by assumption) ?rest1x7
            case hy1x7 => (intro w' hSw; (try dsimp only at hSw); go_simp <;> with_reducible rfl)
            simp only [Act.put, List.setIfInBounds_toArray, List.set_cons_zero, List.set_cons_succ]
            refine wpAnyH_take (i := 9) (v := ?v1x8) rfl (by kernel_rfl) (by kernel_rfl) (by kernel_rfl) (fun _ _ _ h => h) (Or.inl ⟨by rfl, ?hy1x8⟩) (by assumption) ?rest1x8
            case hy1x8 => (intro w' hSw; (try dsimp only at hSw); go_simp <;> with_reducible rfl)
            simp only [Act.put, List.setIfInBounds_toArray, List.set_cons_zero, List.set_cons_succ]
            refine wpAnyH_take (i := 10) (v := ?v1x9) rfl (by kernel_rfl) (by kernel_rfl) (by kernel_rfl) (fun _ _ _ h => h) (Or.inl ⟨by rfl, ?hy1x9⟩) (by assumption) ?rest1x9
            case hy1x9 => (intro w' hSw; (try dsimp only at hSw); go_simp <;> with_reducible rfl)
            simp only [Act.put, List.setIfInBounds_toArray, List.set_cons_zero, List.set_cons_succ]
            refine wpAnyH_ready (rs := [1]) (by kernel_rfl) (by simp) ?_
            refine (AllReadyH.cons rfl (fun K hK => ?_) AllReadyH.nil)
            go_simp
            refine hK.out _ _ ?_ (fun hHeld => ?_)
            · (first | (with_reducible exact hHeld) | (with_reducible exact hk2) | (refine ⟨?_, ?_, ?_, ?_, ?_⟩ <;> simp only [World.cell?_setCell_far, ne_eq, hqb, not_false_eq_true, hk2.1, hk2.2.1, hk2.2.2.1, hk2.2.2.2.1, hk2.2.2.2.2]))
            clear hK K
            try simp only [Act.put, List.setIfInBounds_toArray, List.set_cons_zero, List.set_cons_succ]
            refine wpAnyH_ready (rs := [2]) (by kernel_rfl) (by simp) ?_
            refine (AllReadyH.cons rfl (fun K hK => ?_) AllReadyH.nil)
            go_simp
            (go_at_call 100; refine (hQr _).mono ?_; rintro e w2 ⟨rfl, hb2⟩; have HT2 := Lib.hid (HT1.out.below ((Below.refl _ _).drew.trans hb2)); obtain ⟨r0, r1, r2, r3, r4, g0, g1, g2, g3, g4⟩ := HT2.out.bx; simp only at r0 r1 r2 r3 r4; have hk2 := (HNM.out.keep (((Below.refl w1.heap.size w1).drew.trans hb2).block b (Nat.lt_trans hbl' HT1.out.siz))).parts5; have hz2 := HT2.out.siz; clear hb2)
            try go_wp2_with fail
            refine hK.out _ _ ?_ (fun hHeld => ?_)
            · (first | (with_reducible exact hHeld) | (with_reducible exact hk2) | (refine ⟨?_, ?_, ?_, ?_, ?_⟩ <;> simp only [World.cell?_setCell_far, ne_eq, hqb, not_false_eq_true, hk2.1, hk2.2.1, hk2.2.2.1, hk2.2.2.2.1, hk2.2.2.2.2]))
            clear hK K
            try simp only [Act.put, List.setIfInBounds_toArray, List.set_cons_zero, List.set_cons_succ]
            refine wpAnyH_ready (rs := [11]) (by kernel_rfl) (by simp) ?_
            refine (AllReadyH.cons rfl (fun K hK => ?_) AllReadyH.nil)
            go_simp
            refine hK.out _ _ ?_ (fun hHeld => ?_)
            · (first | (with_reducible exact hHeld) | (with_reducible exact hk2) | (refine ⟨?_, ?_, ?_, ?_, ?_⟩ <;> simp only [World.cell?_setCell_far, ne_eq, hqb, not_false_eq_true, hk2.1, hk2.2.1, hk2.2.2.1, hk2.2.2.2.1, hk2.2.2.2.2]))
            clear hK K
            try simp only [Act.put, List.setIfInBounds_toArray, List.set_cons_zero, List.set_cons_succ]
            refine wpAnyH_take (i := 12) (v := ?v1x10) rfl (by kernel_rfl) (by kernel_rfl) (by kernel_rfl) (fun _ _ _ h => h) (Or.inl ⟨by rfl, ?hy1x10⟩) (by assumption) ?rest1x10
            case hy1x10 => (intro w' hSw; (try dsimp only at hSw); go_simp <;> with_reducible rfl)
            simp only [Act.put, List.setIfInBounds_toArray, List.set_cons_zero, List.set_cons_succ]
            refine wpAnyH_take (i := 13) (v := ?v1x11) rfl (by kernel_rfl) (by kernel_rfl) (by kernel_rfl) (fun _ _ _ h => h) (Or.inl ⟨by rfl, ?hy1x11⟩) (by assumption) ?rest1x11
            case hy1x11 => (intro w' hSw; (try dsimp only at hSw); go_simp <;> with_reducible rfl)
            simp only [Act.put, List.setIfInBounds_toArray, List.set_cons_zero, List.set_cons_succ]
            refine wpAnyH_ready (rs := [14]) (by kernel_rfl) (by simp) ?_
            refine (AllReadyH.cons rfl (fun K hK => ?_) AllReadyH.nil)
            go_simp
            refine hK.out _ _ ?_ (fun hHeld => ?_)
            · (first | (with_reducible exact hHeld) | (with_reducible exact hk2) | (refine ⟨?_, ?_, ?_, ?_, ?_⟩ <;> simp only [World.cell?_setCell_far, ne_eq, hqb, not_false_eq_true, hk2.1, hk2.2.1, hk2.2.2.1, hk2.2.2.2.1, hk2.2.2.2.2]))
            clear hK K
            try simp only [Act.put, List.setIfInBounds_toArray, List.set_cons_zero, List.set_cons_succ]
            refine wpAnyH_done (by kernel_rfl) ?_ _
            refine NoPanic.normal ?_
            clear hk2 r0 r1 r2 r3 r4 g0 g1 g2 g3 g4 c0 c1 c2 c3 c4 f0 f1 f2 f3 f4 e0 e1 e2 e3 e4
            go_wp2
            go_roundw
            case rel => exact ⟨0, id, 1 % 1, 1 % 1, hm, rfl, by first | rfl | (congr 1; omega), by first | rfl | (congr 1; omega), HED.out, HQ2.out, HX1.out, HY1.out, HQ3.out, by rw [HME.out]; exact HPUT.out _ HT2.out⟩
            case measure => simp [intOf]
          · obtain rfl : i = 1 := by omega
            obtain rfl : j = 0 := by omega
            skip
            have HQ : Hid (quarter (⟨nt, ia, ib, ic, id⟩ : Nd) 1 1 0 = ib) := by show _ = _; simp [quarter, h1, h2]
            rw [HQ.out] at HQ1 HQ2 HQ3
            have hm : ib < l.length := by have := HQ1.out; omega
            have hdx : ((1 : Nat) : Int) / 1 = 1 := by omega
            have hdy : ((0 : Nat) : Int) / 1 = 0 := by omega
            have hix := fun w => index_quad1 (ia : Int) ib ic id w
            have hmi : (ib : Int) < (l.length : Int) := by omega
            obtain ⟨c0, c1, c2, c3, c4, f0, f1, f2, f3, f4⟩ := HTB.out.bx
            simp only at c0 c1 c2 c3 c4
            go_wp2_with fail
            refine (hSp _).mono ?_
            rintro e w1 ⟨rfl, hb1⟩
            have HT1 := Lib.hid (HTB.out.below hb1)
            clear hb1 c0 c1 c2 c3 c4 f0 f1 f2 f3 f4
            obtain ⟨c0, c1, c2, c3, c4, f0, f1, f2, f3, f4⟩ := HT1.out.bx
            simp only at c0 c1 c2 c3 c4
            obtain ⟨b', off', heq, hbl', hnm⟩ := HT1.out.ri.at_ hm
            simp only [Option.some.injEq, Addr.mk.injEq, and_true] at heq
            obtain ⟨rfl, rfl⟩ := heq
            have HNM := Lib.hid hnm
            have HPUT := Lib.hid (fun wr (h : TB w (some ⟨b, off, none⟩) l ⟨nt, ia, ib, ic, id⟩ wr) => h.put l[ib])
            generalize hme : l[ib] = m at *
            have HME := Lib.hid hme
            clear hme
            obtain ⟨mt, ma, mb, mc, md⟩ := m
            obtain ⟨e0, e1, e2, e3, e4⟩ := hnm
            simp only at e0 e1 e2 e3 e4
            have hqb : ¬ w.heap.size = b := by omega
            have hw0 : IntKind.i64.wrap 0 = 0 := by decide
            have hw1 : IntKind.i64.wrap 1 = 1 := by decide
            have hw2 : IntKind.i64.wrap 2 = 2 := by decide
            have hw3 : IntKind.i64.wrap 3 = 3 := by decide
            go_wp2_with fail
            refine wp_region_noPanic ?_
            refine wp_region_held_drew (S := (fun w' => w'.cell? ⟨b, off + ib * 5, none⟩ = some (.int .i64 mt) ∧ w'.cell? ⟨b, off + ib * 5 + 1, none⟩ = some (.int .i64 ma) ∧ w'.cell? ⟨b, off + ib * 5 + 2, none⟩ = some (.int .i64 mb) ∧ w'.cell? ⟨b, off + ib * 5 + 3, none⟩ = some (.int .i64 mc) ∧ w'.cell? ⟨b, off + ib * 5 + 4, none⟩ = some (.int .i64 md))) (by kernel_rfl) ⟨e0, e1, e2, e3, e4⟩ (fun hHeld => ?_)
            refine wpAnyH_take (i := 0) (v := ?v2x1) rfl (by kernel_rfl) (by kernel_rfl) (by kernel_rfl) (fun _ _ _ h => h) (Or.inl ⟨by rfl, ?hy2x1⟩) (by assumption) ?rest2x1
            case hy2x1 => (intro w' hSw; (try dsimp only at hSw); go_simp <;> with_reducible rfl)
            simp only [Act.put, List.setIfInBounds_toArray, List.set_cons_zero, List.set_cons_succ]
            refine wpAnyH_take (i := 3) (v := ?v2x2) rfl (by kernel_rfl) (by kernel_rfl) (by kernel_rfl) (fun _ _ _ h => h) (Or.inl ⟨by rfl, ?hy2x2⟩) (by assumption) ?rest2x2
            case hy2x2 => (intro w' hSw; (try dsimp only at hSw); go_simp <;> with_reducible rfl)
            simp only [Act.put, List.setIfInBounds_toArray, List.set_cons_zero, List.set_cons_succ]
            refine wpAnyH_take (i := 4) (v := ?v2x3) rfl (by kernel_rfl) (by kernel_rfl) (by kernel_rfl) (fun _ _ _ h => h) (Or.inl ⟨by rfl, ?hy2x3⟩) (by assumption) ?rest2x3
            case hy2x3 => (intro w' hSw; (try dsimp only at hSw); go_simp <;> with_reducible rfl)
            simp only [Act.put, List.setIfInBounds_toArray, List.set_cons_zero, List.set_cons_succ]
            refine wpAnyH_take (i := 5) (v := ?v2x4) rfl (by kernel_rfl) (by kernel_rfl) (by kernel_rfl) (fun _ _ _ h => h) (Or.inl ⟨by rfl, ?hy2x4⟩) (by assumption) ?rest2x4
            case hy2x4 => (intro w' hSw; (try dsimp only at hSw); go_simp <;> with_reducible rfl)
            simp only [Act.put, List.setIfInBounds_toArray, List.set_cons_zero, List.set_cons_succ]
            refine wpAnyH_take (i := 6) (v := ?v2x5) rfl (by kernel_rfl) (by kernel_rfl) (by kernel_rfl) (fun _ _ _ h => h) (Or.inl ⟨by rfl, ?hy2x5⟩) (by assumption) ?rest2x5
            case hy2x5 => (intro w' hSw; (try dsimp only at hSw); go_simp <;> with_reducible rfl)
            simp only [Act.put, List.setIfInBounds_toArray, List.set_cons_zero, List.set_cons_succ]
            refine wpAnyH_take (i := 7) (v := ?v2x6) rfl (by kernel_rfl) (by kernel_rfl) (by kernel_rfl) (fun _ _ _ h => h) (Or.inl ⟨by rfl, ?hy2x6⟩) (by assumption) ?rest2x6
            case hy2x6 => (intro w' hSw; (try dsimp only at hSw); go_simp <;> with_reducible rfl)
            simp only [Act.put, List.setIfInBounds_toArray, List.set_cons_zero, List.set_cons_succ]
            refine wpAnyH_take (i := 8) (v := ?v2x7) rfl (by kernel_rfl) (by kernel_rfl) (by kernel_rfl) (fun _ _ _ h => h) (Or.inl ⟨by rfl, ?hy2x7⟩) (by assumption) ?rest2x7
            case hy2x7 => (intro w' hSw; (try dsimp only at hSw); go_simp <;> with_reducible rfl)
            simp only [Act.put, List.setIfInBounds_toArray, List.set_cons_zero, List.set_cons_succ]
            refine wpAnyH_take (i := 9) (v := ?v2x8) rfl (by kernel_rfl) (by kernel_rfl) (by kernel_rfl) (fun _ _ _ h => h) (Or.inl ⟨by rfl, ?hy2x8⟩) (by assumption) ?rest2x8
            case hy2x8 => (intro w' hSw; (try dsimp only at hSw); go_simp <;> with_reducible rfl)
            simp only [Act.put, List.setIfInBounds_toArray, List.set_cons_zero, List.set_cons_succ]
            refine wpAnyH_take (i := 10) (v := ?v2x9) rfl (by kernel_rfl) (by kernel_rfl) (by kernel_rfl) (fun _ _ _ h => h) (Or.inl ⟨by rfl, ?hy2x9⟩) (by assumption) ?rest2x9
            case hy2x9 => (intro w' hSw; (try dsimp only at hSw); go_simp <;> with_reducible rfl)
            simp only [Act.put, List.setIfInBounds_toArray, List.set_cons_zero, List.set_cons_succ]
            refine wpAnyH_ready (rs := [1]) (by kernel_rfl) (by simp) ?_
            refine (AllReadyH.cons rfl (fun K hK => ?_) AllReadyH.nil)
            go_simp
            refine hK.out _ _ ?_ (fun hHeld => ?_)
            · (first | (with_reducible exact hHeld) | (with_reducible exact hk2) | (refine ⟨?_, ?_, ?_, ?_, ?_⟩ <;> simp only [World.cell?_setCell_far, ne_eq, hqb, not_false_eq_true, hk2.1, hk2.2.1, hk2.2.2.1, hk2.2.2.2.1, hk2.2.2.2.2]))
            clear hK K
            try simp only [Act.put, List.setIfInBounds_toArray, List.set_cons_zero, List.set_cons_succ]
            refine wpAnyH_ready (rs := [2]) (by kernel_rfl) (by simp) ?_
            refine (AllReadyH.cons rfl (fun K hK => ?_) AllReadyH.nil)
            go_simp
            (go_at_call 100; refine (hQr _).mono ?_; rintro e w2 ⟨rfl, hb2⟩; have HT2 := Lib.hid (HT1.out.below ((Below.refl _ _).drew.trans hb2)); obtain ⟨r0, r1, r2, r3, r4, g0, g1, g2, g3, g4⟩ := HT2.out.bx; simp only at r0 r1 r2 r3 r4; have hk2 := (HNM.out.keep (((Below.refl w1.heap.size w1).drew.trans hb2).block b (Nat.lt_trans hbl' HT1.out.siz))).parts5; have hz2 := HT2.out.siz; clear hb2)
            try go_wp2_with fail
            refine hK.out _ _ ?_ (fun hHeld => ?_)
            · (first | (with_reducible exact hHeld) | (with_reducible exact hk2) | (refine ⟨?_, ?_, ?_, ?_, ?_⟩ <;> simp only [World.cell?_setCell_far, ne_eq, hqb, not_false_eq_true, hk2.1, hk2.2.1, hk2.2.2.1, hk2.2.2.2.1, hk2.2.2.2.2]))
            clear hK K
            try simp only [Act.put, List.setIfInBounds_toArray, List.set_cons_zero, List.set_cons_succ]
            refine wpAnyH_ready (rs := [11]) (by kernel_rfl) (by simp) ?_
            refine (AllReadyH.cons rfl (fun K hK => ?_) AllReadyH.nil)
            go_simp
            refine hK.out _ _ ?_ (fun hHeld => ?_)
            · (first | (with_reducible exact hHeld) | (with_reducible exact hk2) | (refine ⟨?_, ?_, ?_, ?_, ?_⟩ <;> simp only [World.cell?_setCell_far, ne_eq, hqb, not_false_eq_true, hk2.1, hk2.2.1, hk2.2.2.1, hk2.2.2.2.1, hk2.2.2.2.2]))
            clear hK K
            try simp only [Act.put, List.setIfInBounds_toArray, List.set_cons_zero, List.set_cons_succ]
            refine wpAnyH_take (i := 12) (v := ?v2x10) rfl (by kernel_rfl) (by kernel_rfl) (by kernel_rfl) (fun _ _ _ h => h) (Or.inl ⟨by rfl, ?hy2x10⟩) (by assumption) ?rest2x10
            case hy2x10 => (intro w' hSw; (try dsimp only at hSw); go_simp <;> with_reducible rfl)
            simp only [Act.put, List.setIfInBounds_toArray, List.set_cons_zero, List.set_cons_succ]
            refine wpAnyH_take (i := 13) (v := ?v2x11) rfl (by kernel_rfl) (by kernel_rfl) (by kernel_rfl) (fun _ _ _ h => h) (Or.inl ⟨by rfl, ?hy2x11⟩) (by assumption) ?rest2x11
            case hy2x11 => (intro w' hSw; (try dsimp only at hSw); go_simp <;> with_reducible rfl)
            simp only [Act.put, List.setIfInBounds_toArray, List.set_cons_zero, List.set_cons_succ]
            refine wpAnyH_ready (rs := [14]) (by kernel_rfl) (by simp) ?_
            refine (AllReadyH.cons rfl (fun K hK => ?_) AllReadyH.nil)
            go_simp
            refine hK.out _ _ ?_ (fun hHeld => ?_)
            · (first | (with_reducible exact hHeld) | (with_reducible exact hk2) | (refine ⟨?_, ?_, ?_, ?_, ?_⟩ <;> simp only [World.cell?_setCell_far, ne_eq, hqb, not_false_eq_true, hk2.1, hk2.2.1, hk2.2.2.1, hk2.2.2.2.1, hk2.2.2.2.2]))
            clear hK K
            try simp only [Act.put, List.setIfInBounds_toArray, List.set_cons_zero, List.set_cons_succ]
            refine wpAnyH_done (by kernel_rfl) ?_ _
            refine NoPanic.normal ?_
            clear hk2 r0 r1 r2 r3 r4 g0 g1 g2 g3 g4 c0 c1 c2 c3 c4 f0 f1 f2 f3 f4 e0 e1 e2 e3 e4
            go_wp2
            go_roundw
            case rel => exact ⟨0, ib, 1 % 1, 0 % 1, hm, rfl, by first | rfl | (congr 1; omega), by first | rfl | (congr 1; omega), HED.out, HQ2.out, HX1.out, HY1.out, HQ3.out, by rw [HME.out]; exact HPUT.out _ HT2.out⟩
            case measure => simp [intOf]
        · by_cases h2 : 1 ≤ j
          · obtain rfl : i = 0 := by omega
            obtain rfl : j = 1 := by omega
            skip
            have HQ : Hid (quarter (⟨nt, ia, ib, ic, id⟩ : Nd) 1 0 1 = ic) := by show _ = _; simp [quarter, h1, h2]
            rw [HQ.out] at HQ1 HQ2 HQ3
            have hm : ic < l.length := by have := HQ1.out; omega
            have hdx : ((0 : Nat) : Int) / 1 = 0 := by omega
            have hdy : ((1 : Nat) : Int) / 1 = 1 := by omega
            have hix := fun w => index_quad2 (ia : Int) ib ic id w
            have hmi : (ic : Int) < (l.length : Int) := by omega
            obtain ⟨c0, c1, c2, c3, c4, f0, f1, f2, f3, f4⟩ := HTB.out.bx
            simp only at c0 c1 c2 c3 c4
            go_wp2_with fail
            refine (hSp _).mono ?_
            rintro e w1 ⟨rfl, hb1⟩
            have HT1 := Lib.hid (HTB.out.below hb1)
            clear hb1 c0 c1 c2 c3 c4 f0 f1 f2 f3 f4
            obtain ⟨c0, c1, c2, c3, c4, f0, f1, f2, f3, f4⟩ := HT1.out.bx
            simp only at c0 c1 c2 c3 c4
            obtain ⟨b', off', heq, hbl', hnm⟩ := HT1.out.ri.at_ hm
            simp only [Option.some.injEq, Addr.mk.injEq, and_true] at heq
            obtain ⟨rfl, rfl⟩ := heq
            have HNM := Lib.hid hnm
            have HPUT := Lib.hid (fun wr (h : TB w (some ⟨b, off, none⟩) l ⟨nt, ia, ib, ic, id⟩ wr) => h.put l[ic])
            generalize hme : l[ic] = m at *
            have HME := Lib.hid hme
            clear hme
            obtain ⟨mt, ma, mb, mc, md⟩ := m
            obtain ⟨e0, e1, e2, e3, e4⟩ := hnm
            simp only at e0 e1 e2 e3 e4
            have hqb : ¬ w.heap.size = b := by omega
            have hw0 : IntKind.i64.wrap 0 = 0 := by decide
            have hw1 : IntKind.i64.wrap 1 = 1 := by decide
            have hw2 : IntKind.i64.wrap 2 = 2 := by decide
            have hw3 : IntKind.i64.wrap 3 = 3 := by decide
            go_wp2_with fail
            refine wp_region_noPanic ?_
            refine wp_region_held_drew (S := (fun w' => w'.cell? ⟨b, off + ic * 5, none⟩ = some (.int .i64 mt) ∧ w'.cell? ⟨b, off + ic * 5 + 1, none⟩ = some (.int .i64 ma) ∧ w'.cell? ⟨b, off + ic * 5 + 2, none⟩ = some (.int .i64 mb) ∧ w'.cell? ⟨b, off + ic * 5 + 3, none⟩ = some (.int .i64 mc) ∧ w'.cell? ⟨b, off + ic * 5 + 4, none⟩ = some (.int .i64 md))) (by kernel_rfl) ⟨e0, e1, e2, e3, e4⟩ (fun hHeld => ?_)
            refine wpAnyH_take (i := 0) (v := ?v3x1) rfl (by kernel_rfl) (by kernel_rfl) (by kernel_rfl) (fun _ _ _ h => h) (Or.inl ⟨by rfl, ?hy3x1⟩) (by assumption) ?rest3x1
            case hy3x1 => (intro w' hSw; (try dsimp only at hSw); go_simp <;> with_reducible rfl)
            simp only [Act.put, List.setIfInBounds_toArray, List.set_cons_zero, List.set_cons_succ]
            refine wpAnyH_take (i := 3) (v := ?v3x2) rfl (by kernel_rfl) (by kernel_rfl) (by kernel_rfl) (fun _ _ _ h => h) (Or.inl ⟨by rfl, ?hy3x2⟩) (by assumption) ?rest3x2
            case hy3x2 => (intro w' hSw; (try dsimp only at hSw); go_simp <;> with_reducible rfl)
            simp only [Act.put, List.setIfInBounds_toArray, List.set_cons_zero, List.set_cons_succ]
            refine wpAnyH_take (i := 4) (v := ?v3x3) rfl (by kernel_rfl) (by kernel_rfl) (by kernel_rfl) (fun _ _ _ h => h) (Or.inl ⟨by rfl, ?hy3x3⟩) (by assumption) ?rest3x3
            case hy3x3 => (intro w' hSw; (try dsimp only at hSw); go_simp <;> with_reducible rfl)
            simp only [Act.put, List.setIfInBounds_toArray, List.set_cons_zero, List.set_cons_succ]
            refine wpAnyH_take (i := 5) (v := ?v3x4) rfl (by kernel_rfl) (by kernel_rfl) (by kernel_rfl) (fun _ _ _ h => h) (Or.inl ⟨by rfl, ?hy3x4⟩) (by assumption) ?rest3x4
            case hy3x4 => (intro w' hSw; (try dsimp only at hSw); go_simp <;> with_reducible rfl)
            simp only [Act.put, List.setIfInBounds_toArray, List.set_cons_zero, List.set_cons_succ]
            refine wpAnyH_take (i := 6) (v := ?v3x5) rfl (by kernel_rfl) (by kernel_rfl) (by kernel_rfl) (fun _ _ _ h => h) (Or.inl ⟨by rfl, ?hy3x5⟩) (by assumption) ?rest3x5
            case hy3x5 => (intro w' hSw; (try dsimp only at hSw); go_simp <;> with_reducible rfl)
            simp only [Act.put, List.setIfInBounds_toArray, List.set_cons_zero, List.set_cons_succ]
            refine wpAnyH_take (i := 7) (v := ?v3x6) rfl (by kernel_rfl) (by kernel_rfl) (by kernel_rfl) (fun _ _ _ h => h) (Or.inl ⟨by rfl, ?hy3x6⟩) (by assumption) ?rest3x6
            case hy3x6 => (intro w' hSw; (try dsimp only at hSw); go_simp <;> with_reducible rfl)
            simp only [Act.put, List.setIfInBounds_toArray, List.set_cons_zero, List.set_cons_succ]
            refine wpAnyH_take (i := 8) (v := ?v3x7) rfl (by kernel_rfl) (by kernel_rfl) (by kernel_rfl) (fun _ _ _ h => h) (Or.inl ⟨by rfl, ?hy3x7⟩) (by assumption) ?rest3x7
            case hy3x7 => (intro w' hSw; (try dsimp only at hSw); go_simp <;> with_reducible rfl)
            simp only [Act.put, List.setIfInBounds_toArray, List.set_cons_zero, List.set_cons_succ]
            refine wpAnyH_take (i := 9) (v := ?v3x8) rfl (by kernel_rfl) (by kernel_rfl) (by kernel_rfl) (fun _ _ _ h => h) (Or.inl ⟨by rfl, ?hy3x8⟩) (by assumption) ?rest3x8
            case hy3x8 => (intro w' hSw; (try dsimp only at hSw); go_simp <;> with_reducible rfl)
            simp only [Act.put, List.setIfInBounds_toArray, List.set_cons_zero, List.set_cons_succ]
            refine wpAnyH_take (i := 10) (v := ?v3x9) rfl (by kernel_rfl) (by kernel_rfl) (by kernel_rfl) (fun _ _ _ h => h) (Or.inl ⟨by rfl, ?hy3x9⟩) (by assumption) ?rest3x9
            case hy3x9 => (intro w' hSw; (try dsimp only at hSw); go_simp <;> with_reducible rfl)
            simp only [Act.put, List.setIfInBounds_toArray, List.set_cons_zero, List.set_cons_succ]
            refine wpAnyH_ready (rs := [1]) (by kernel_rfl) (by simp) ?_
            refine (AllReadyH.cons rfl (fun K hK => ?_) AllReadyH.nil)
            go_simp
            refine hK.out _ _ ?_ (fun hHeld => ?_)
            · (first | (with_reducible exact hHeld) | (with_reducible exact hk2) | (refine ⟨?_, ?_, ?_, ?_, ?_⟩ <;> simp only [World.cell?_setCell_far, ne_eq, hqb, not_false_eq_true, hk2.1, hk2.2.1, hk2.2.2.1, hk2.2.2.2.1, hk2.2.2.2.2]))
            clear hK K
            try simp only [Act.put, List.setIfInBounds_toArray, List.set_cons_zero, List.set_cons_succ]
            refine wpAnyH_ready (rs := [2]) (by kernel_rfl) (by simp) ?_
            refine (AllReadyH.cons rfl (fun K hK => ?_) AllReadyH.nil)
            go_simp
            (go_at_call 100; refine (hQr _).mono ?_; rintro e w2 ⟨rfl, hb2⟩; have HT2 := Lib.hid (HT1.out.below ((Below.refl _ _).drew.trans hb2)); obtain ⟨r0, r1, r2, r3, r4, g0, g1, g2, g3, g4⟩ := HT2.out.bx; simp only at r0 r1 r2 r3 r4; have hk2 := (HNM.out.keep (((Below.refl w1.heap.size w1).drew.trans hb2).block b (Nat.lt_trans hbl' HT1.out.siz))).parts5; have hz2 := HT2.out.siz; clear hb2)
            try go_wp2_with fail
            refine hK.out _ _ ?_ (fun hHeld => ?_)
            · (first | (with_reducible exact hHeld) | (with_reducible exact hk2) | (refine ⟨?_, ?_, ?_, ?_, ?_⟩ <;> simp only [World.cell?_setCell_far, ne_eq, hqb, not_false_eq_true, hk2.1, hk2.2.1, hk2.2.2.1, hk2.2.2.2.1, hk2.2.2.2.2]))
            clear hK K
            try simp only [Act.put, List.setIfInBounds_toArray, List.set_cons_zero, List.set_cons_succ]
            refine wpAnyH_ready (rs := [11]) (by kernel_rfl) (by simp) ?_
            refine (AllReadyH.cons rfl (fun K hK => ?_) AllReadyH.nil)
            go_simp
            refine hK.out _ _ ?_ (fun hHeld => ?_)
            · (first | (with_reducible exact hHeld) | (with_reducible exact hk2) | (refine ⟨?_, ?_, ?_, ?_, ?_⟩ <;> simp only [World.cell?_setCell_far, ne_eq, hqb, not_false_eq_true, hk2.1, hk2.2.1, hk2.2.2.1, hk2.2.2.2.1, hk2.2.2.2.2]))
            clear hK K
            try simp only [Act.put, List.setIfInBounds_toArray, List.set_cons_zero, List.set_cons_succ]
            refine wpAnyH_take (i := 12) (v := ?v3x10) rfl (by kernel_rfl) (by kernel_rfl) (by kernel_rfl) (fun _ _ _ h => h) (Or.inl ⟨by rfl, ?hy3x10⟩) (by assumption) ?rest3x10
            case hy3x10 => (intro w' hSw; (try dsimp only at hSw); go_simp <;> with_reducible rfl)
            simp only [Act.put, List.setIfInBounds_toArray, List.set_cons_zero, List.set_cons_succ]
            refine wpAnyH_take (i := 13) (v := ?v3x11) rfl (by kernel_rfl) (by kernel_rfl) (by kernel_rfl) (fun _ _ _ h => h) (Or.inl ⟨by rfl, ?hy3x11⟩) (by assumption) ?rest3x11
            case hy3x11 => (intro w' hSw; (try dsimp only at hSw); go_simp <;> with_reducible rfl)
            simp only [Act.put, List.setIfInBounds_toArray, List.set_cons_zero, List.set_cons_succ]
            refine wpAnyH_ready (rs := [14]) (by kernel_rfl) (by simp) ?_
            refine (AllReadyH.cons rfl (fun K hK => ?_) AllReadyH.nil)
            go_simp
            refine hK.out _ _ ?_ (fun hHeld => ?_)
            · (first | (with_reducible exact hHeld) | (with_reducible exact hk2) | (refine ⟨?_, ?_, ?_, ?_, ?_⟩ <;> simp only [World.cell?_setCell_far, ne_eq, hqb, not_false_eq_true, hk2.1, hk2.2.1, hk2.2.2.1, hk2.2.2.2.1, hk2.2.2.2.2]))
            clear hK K
            try simp only [Act.put, List.setIfInBounds_toArray, List.set_cons_zero, List.set_cons_succ]
            refine wpAnyH_done (by kernel_rfl) ?_ _
            refine NoPanic.normal ?_
            clear hk2 r0 r1 r2 r3 r4 g0 g1 g2 g3 g4 c0 c1 c2 c3 c4 f0 f1 f2 f3 f4 e0 e1 e2 e3 e4
            go_wp2
            go_roundw
            case rel => exact ⟨0, ic, 0 % 1, 1 % 1, hm, rfl, by first | rfl | (congr 1; omega), by first | rfl | (congr 1; omega), HED.out, HQ2.out, HX1.out, HY1.out, HQ3.out, by rw [HME.out]; exact HPUT.out _ HT2.out⟩
            case measure => simp [intOf]
          · obtain rfl : i = 0 := by omega
            obtain rfl : j = 0 := by omega
            skip
            have HQ : Hid (quarter (⟨nt, ia, ib, ic, id⟩ : Nd) 1 0 0 = ia) := by show _ = _; simp [quarter, h1, h2]
            rw [HQ.out] at HQ1 HQ2 HQ3
            have hm : ia < l.length := by have := HQ1.out; omega
            have hdx : ((0 : Nat) : Int) / 1 = 0 := by omega
            have hdy : ((0 : Nat) : Int) / 1 = 0 := by omega
            have hix := fun w => index_quad0 (ia : Int) ib ic id w
            have hmi : (ia : Int) < (l.length : Int) := by omega
            obtain ⟨c0, c1, c2, c3, c4, f0, f1, f2, f3, f4⟩ := HTB.out.bx
            simp only at c0 c1 c2 c3 c4
            go_wp2_with fail
            refine (hSp _).mono ?_
            rintro e w1 ⟨rfl, hb1⟩
            have HT1 := Lib.hid (HTB.out.below hb1)
            clear hb1 c0 c1 c2 c3 c4 f0 f1 f2 f3 f4
            obtain ⟨c0, c1, c2, c3, c4, f0, f1, f2, f3, f4⟩ := HT1.out.bx
            simp only at c0 c1 c2 c3 c4
            obtain ⟨b', off', heq, hbl', hnm⟩ := HT1.out.ri.at_ hm
            simp only [Option.some.injEq, Addr.mk.injEq, and_true] at heq
            obtain ⟨rfl, rfl⟩ := heq
            have HNM := Lib.hid hnm
            have HPUT := Lib.hid (fun wr (h : TB w (some ⟨b, off, none⟩) l ⟨nt, ia, ib, ic, id⟩ wr) => h.put l[ia])
            generalize hme : l[ia] = m at *
            have HME := Lib.hid hme
            clear hme
            obtain ⟨mt, ma, mb, mc, md⟩ := m
            obtain ⟨e0, e1, e2, e3, e4⟩ := hnm
            simp only at e0 e1 e2 e3 e4
            have hqb : ¬ w.heap.size = b := by omega
            have hw0 : IntKind.i64.wrap 0 = 0 := by decide
            have hw1 : IntKind.i64.wrap 1 = 1 := by decide
            have hw2 : IntKind.i64.wrap 2 = 2 := by decide
            have hw3 : IntKind.i64.wrap 3 = 3 := by decide
            go_wp2_with fail
            refine wp_region_noPanic ?_
            refine wp_region_held_drew (S := (fun w' => w'.cell? ⟨b, off + ia * 5, none⟩ = some (.int .i64 mt) ∧ w'.cell? ⟨b, off + ia * 5 + 1, none⟩ = some (.int .i64 ma) ∧ w'.cell? ⟨b, off + ia * 5 + 2, none⟩ = some (.int .i64 mb) ∧ w'.cell? ⟨b, off + ia * 5 + 3, none⟩ = some (.int .i64 mc) ∧ w'.cell? ⟨b, off + ia * 5 + 4, none⟩ = some (.int .i64 md))) (by kernel_rfl) ⟨e0, e1, e2, e3, e4⟩ (fun hHeld => ?_)
            refine wpAnyH_take (i := 0) (v := ?v4x1) rfl (by kernel_rfl) (by kernel_rfl) (by kernel_rfl) (fun _ _ _ h => h) (Or.inl ⟨by rfl, ?hy4x1⟩) (by assumption) ?rest4x1
            case hy4x1 => (intro w' hSw; (try dsimp only at hSw); go_simp <;> with_reducible rfl)
            simp only [Act.put, List.setIfInBounds_toArray, List.set_cons_zero, List.set_cons_succ]
            refine wpAnyH_take (i := 3) (v := ?v4x2) rfl (by kernel_rfl) (by kernel_rfl) (by kernel_rfl) (fun _ _ _ h => h) (Or.inl ⟨by rfl, ?hy4x2⟩) (by assumption) ?rest4x2
            case hy4x2 => (intro w' hSw; (try dsimp only at hSw); go_simp <;> with_reducible rfl)
            simp only [Act.put, List.setIfInBounds_toArray, List.set_cons_zero, List.set_cons_succ]
            refine wpAnyH_take (i := 4) (v := ?v4x3) rfl (by kernel_rfl) (by kernel_rfl) (by kernel_rfl) (fun _ _ _ h => h) (Or.inl ⟨by rfl, ?hy4x3⟩) (by assumption) ?rest4x3
            case hy4x3 => (intro w' hSw; (try dsimp only at hSw); go_simp <;> with_reducible rfl)
            simp only [Act.put, List.setIfInBounds_toArray, List.set_cons_zero, List.set_cons_succ]
            refine wpAnyH_take (i := 5) (v := ?v4x4) rfl (by kernel_rfl) (by kernel_rfl) (by kernel_rfl) (fun _ _ _ h => h) (Or.inl ⟨by rfl, ?hy4x4⟩) (by assumption) ?rest4x4
            case hy4x4 => (intro w' hSw; (try dsimp only at hSw); go_simp <;> with_reducible rfl)
            simp only [Act.put, List.setIfInBounds_toArray, List.set_cons_zero, List.set_cons_succ]
            refine wpAnyH_take (i := 6) (v := ?v4x5) rfl (by kernel_rfl) (by kernel_rfl) (by kernel_rfl) (fun _ _ _ h => h) (Or.inl ⟨by rfl, ?hy4x5⟩) (by assumption) ?rest4x5
            case hy4x5 => (intro w' hSw; (try dsimp only at hSw); go_simp <;> with_reducible rfl)
            simp only [Act.put, List.setIfInBounds_toArray, List.set_cons_zero, List.set_cons_succ]
            refine wpAnyH_take (i := 7) (v := ?v4x6) rfl (by kernel_rfl) (by kernel_rfl) (by kernel_rfl) (fun _ _ _ h => h) (Or.inl ⟨by rfl, ?hy4x6⟩) (by assumption) ?rest4x6
            case hy4x6 => (intro w' hSw; (try dsimp only at hSw); go_simp <;> with_reducible rfl)
            simp only [Act.put, List.setIfInBounds_toArray, List.set_cons_zero, List.set_cons_succ]
            refine wpAnyH_take (i := 8) (v := ?v4x7) rfl (by kernel_rfl) (by kernel_rfl) (by kernel_rfl) (fun _ _ _ h => h) (Or.inl ⟨by rfl, ?hy4x7⟩) (by assumption) ?rest4x7
            case hy4x7 => (intro w' hSw; (try dsimp only at hSw); go_simp <;> with_reducible rfl)
            simp only [Act.put, List.setIfInBounds_toArray, List.set_cons_zero, List.set_cons_succ]
            refine wpAnyH_take (i := 9) (v := ?v4x8) rfl (by kernel_rfl) (by kernel_rfl) (by kernel_rfl) (fun _ _ _ h => h) (Or.inl ⟨by rfl, ?hy4x8⟩) (by assumption) ?rest4x8
            case hy4x8 => (intro w' hSw; (try dsimp only at hSw); go_simp <;> with_reducible rfl)
            simp only [Act.put, List.setIfInBounds_toArray, List.set_cons_zero, List.set_cons_succ]
            refine wpAnyH_take (i := 10) (v := ?v4x9) rfl (by kernel_rfl) (by kernel_rfl) (by kernel_rfl) (fun _ _ _ h => h) (Or.inl ⟨by rfl, ?hy4x9⟩) (by assumption) ?rest4x9
            case hy4x9 => (intro w' hSw; (try dsimp only at hSw); go_simp <;> with_reducible rfl)
            simp only [Act.put, List.setIfInBounds_toArray, List.set_cons_zero, List.set_cons_succ]
            refine wpAnyH_ready (rs := [1]) (by kernel_rfl) (by simp) ?_
            refine (AllReadyH.cons rfl (fun K hK => ?_) AllReadyH.nil)
            go_simp
            refine hK.out _ _ ?_ (fun hHeld => ?_)
            · (first | (with_reducible exact hHeld) | (with_reducible exact hk2) | (refine ⟨?_, ?_, ?_, ?_, ?_⟩ <;> simp only [World.cell?_setCell_far, ne_eq, hqb, not_false_eq_true, hk2.1, hk2.2.1, hk2.2.2.1, hk2.2.2.2.1, hk2.2.2.2.2]))
            clear hK K
            try simp only [Act.put, List.setIfInBounds_toArray, List.set_cons_zero, List.set_cons_succ]
            refine wpAnyH_ready (rs := [2]) (by kernel_rfl) (by simp) ?_
            refine (AllReadyH.cons rfl (fun K hK => ?_) AllReadyH.nil)
            go_simp
            (go_at_call 100; refine (hQr _).mono ?_; rintro e w2 ⟨rfl, hb2⟩; have HT2 := Lib.hid (HT1.out.below ((Below.refl _ _).drew.trans hb2)); obtain ⟨r0, r1, r2, r3, r4, g0, g1, g2, g3, g4⟩ := HT2.out.bx; simp only at r0 r1 r2 r3 r4; have hk2 := (HNM.out.keep (((Below.refl w1.heap.size w1).drew.trans hb2).block b (Nat.lt_trans hbl' HT1.out.siz))).parts5; have hz2 := HT2.out.siz; clear hb2)
            try go_wp2_with fail
            refine hK.out _ _ ?_ (fun hHeld => ?_)
            · (first | (with_reducible exact hHeld) | (with_reducible exact hk2) | (refine ⟨?_, ?_, ?_, ?_, ?_⟩ <;> simp only [World.cell?_setCell_far, ne_eq, hqb, not_false_eq_true, hk2.1, hk2.2.1, hk2.2.2.1, hk2.2.2.2.1, hk2.2.2.2.2]))
            clear hK K
            try simp only [Act.put, List.setIfInBounds_toArray, List.set_cons_zero, List.set_cons_succ]
            refine wpAnyH_ready (rs := [11]) (by kernel_rfl) (by simp) ?_
            refine (AllReadyH.cons rfl (fun K hK => ?_) AllReadyH.nil)
            go_simp
            refine hK.out _ _ ?_ (fun hHeld => ?_)
            · (first | (with_reducible exact hHeld) | (with_reducible exact hk2) | (refine ⟨?_, ?_, ?_, ?_, ?_⟩ <;> simp only [World.cell?_setCell_far, ne_eq, hqb, not_false_eq_true, hk2.1, hk2.2.1, hk2.2.2.1, hk2.2.2.2.1, hk2.2.2.2.2]))
            clear hK K
            try simp only [Act.put, List.setIfInBounds_toArray, List.set_cons_zero, List.set_cons_succ]
            refine wpAnyH_take (i := 12) (v := ?v4x10) rfl (by kernel_rfl) (by kernel_rfl) (by kernel_rfl) (fun _ _ _ h => h) (Or.inl ⟨by rfl, ?hy4x10⟩) (by assumption) ?rest4x10
            case hy4x10 => (intro w' hSw; (try dsimp only at hSw); go_simp <;> with_reducible rfl)
            simp only [Act.put, List.setIfInBounds_toArray, List.set_cons_zero, List.set_cons_succ]
            refine wpAnyH_take (i := 13) (v := ?v4x11) rfl (by kernel_rfl) (by kernel_rfl) (by kernel_rfl) (fun _ _ _ h => h) (Or.inl ⟨by rfl, ?hy4x11⟩) (by assumption) ?rest4x11
            case hy4x11 => (intro w' hSw; (try dsimp only at hSw); go_simp <;> with_reducible rfl)
            simp only [Act.put, List.setIfInBounds_toArray, List.set_cons_zero, List.set_cons_succ]
            refine wpAnyH_ready (rs := [14]) (by kernel_rfl) (by simp) ?_
            refine (AllReadyH.cons rfl (fun K hK => ?_) AllReadyH.nil)
            go_simp
            refine hK.out _ _ ?_ (fun hHeld => ?_)
            · (first | (with_reducible exact hHeld) | (with_reducible exact hk2) | (refine ⟨?_, ?_, ?_, ?_, ?_⟩ <;> simp only [World.cell?_setCell_far, ne_eq, hqb, not_false_eq_true, hk2.1, hk2.2.1, hk2.2.2.1, hk2.2.2.2.1, hk2.2.2.2.2]))
            clear hK K
            try simp only [Act.put, List.setIfInBounds_toArray, List.set_cons_zero, List.set_cons_succ]
            refine wpAnyH_done (by kernel_rfl) ?_ _
            refine NoPanic.normal ?_
            clear hk2 r0 r1 r2 r3 r4 g0 g1 g2 g3 g4 c0 c1 c2 c3 c4 f0 f1 f2 f3 f4 e0 e1 e2 e3 e4
            go_wp2
            go_roundw
            case rel => exact ⟨0, ia, 0 % 1, 0 % 1, hm, rfl, by first | rfl | (congr 1; omega), by first | rfl | (congr 1; omega), HED.out, HQ2.out, HX1.out, HY1.out, HQ3.out, by rw [HME.out]; exact HPUT.out _ HT2.out⟩
            case measure => simp [intOf]
      · simp only [Nat.reduceAdd, Nat.reducePow] at *
        have i8 : (i : Int) < 4 := by omega
        have j8 : (j : Int) < 4 := by omega
        by_cases h1 : 2 ≤ i
        · by_cases h2 : 2 ≤ j
          · have HQ : Hid (quarter (⟨nt, ia, ib, ic, id⟩ : Nd) 2 i j = id) := by show _ = _; simp [quarter, h1, h2]
            rw [HQ.out] at HQ1 HQ2 HQ3
            have hm : id < l.length := by have := HQ1.out; omega
            have hdx : (i : Int) / 2 = 1 := by omega
            have hdy : (j : Int) / 2 = 1 := by omega
            have hix := fun w => index_quad3 (ia : Int) ib ic id w
            have hmi : (id : Int) < (l.length : Int) := by omega
            obtain ⟨c0, c1, c2, c3, c4, f0, f1, f2, f3, f4⟩ := HTB.out.bx
            simp only at c0 c1 c2 c3 c4
            go_wp2_with fail
            refine (hSp _).mono ?_
            rintro e w1 ⟨rfl, hb1⟩
            have HT1 := Lib.hid (HTB.out.below hb1)
            clear hb1 c0 c1 c2 c3 c4 f0 f1 f2 f3 f4
            obtain ⟨c0, c1, c2, c3, c4, f0, f1, f2, f3, f4⟩ := HT1.out.bx
            simp only at c0 c1 c2 c3 c4
            obtain ⟨b', off', heq, hbl', hnm⟩ := HT1.out.ri.at_ hm
            simp only [Option.some.injEq, Addr.mk.injEq, and_true] at heq
            obtain ⟨rfl, rfl⟩ := heq
            have HNM := Lib.hid hnm
            have HPUT := Lib.hid (fun wr (h : TB w (some ⟨b, off, none⟩) l ⟨nt, ia, ib, ic, id⟩ wr) => h.put l[id])
            generalize hme : l[id] = m at *
            have HME := Lib.hid hme
            clear hme
            obtain ⟨mt, ma, mb, mc, md⟩ := m
            obtain ⟨e0, e1, e2, e3, e4⟩ := hnm
            simp only at e0 e1 e2 e3 e4
            have hqb : ¬ w.heap.size = b := by omega
            have hw0 : IntKind.i64.wrap 0 = 0 := by decide
            have hw1 : IntKind.i64.wrap 1 = 1 := by decide
            have hw2 : IntKind.i64.wrap 2 = 2 := by decide
            have hw3 : IntKind.i64.wrap 3 = 3 := by decide
            go_wp2_with fail
            refine wp_region_noPanic ?_
            refine wp_region_held_drew (S := (fun w' => w'.cell? ⟨b, off + id * 5, none⟩ = some (.int .i64 mt) ∧ w'.cell? ⟨b, off + id * 5 + 1, none⟩ = some (.int .i64 ma) ∧ w'.cell? ⟨b, off + id * 5 + 2, none⟩ = some (.int .i64 mb) ∧ w'.cell? ⟨b, off + id * 5 + 3, none⟩ = some (.int .i64 mc) ∧ w'.cell? ⟨b, off + id * 5 + 4, none⟩ = some (.int .i64 md))) (by kernel_rfl) ⟨e0, e1, e2, e3, e4⟩ (fun hHeld => ?_)
            refine wpAnyH_take (i := 0) (v := ?v5x1) rfl (by kernel_rfl) (by kernel_rfl) (by kernel_rfl) (fun _ _ _ h => h) (Or.inl ⟨by rfl, ?hy5x1⟩) (by assumption) ?rest5x1
            case hy5x1 => (intro w' hSw; (try dsimp only at hSw); go_simp <;> with_reducible rfl)
            simp only [Act.put, List.setIfInBounds_toArray, List.set_cons_zero, List.set_cons_succ]
            refine wpAnyH_take (i := 3) (v := ?v5x2) rfl (by kernel_rfl) (by kernel_rfl) (by kernel_rfl) (fun _ _ _ h => h) (Or.inl ⟨by rfl, ?hy5x2⟩) (by assumption) ?rest5x2
            case hy5x2 => (intro w' hSw; (try dsimp only at hSw); go_simp <;> with_reducible rfl)
            simp only [Act.put, List.setIfInBounds_toArray, List.set_cons_zero, List.set_cons_succ]
            refine wpAnyH_take (i := 4) (v := ?v5x3) rfl (by kernel_rfl) (by kernel_rfl) (by kernel_rfl) (fun _ _ _ h => h) (Or.inl ⟨by rfl, ?hy5x3⟩) (by assumption) ?rest5x3
            case hy5x3 => (intro w' hSw; (try dsimp only at hSw); go_simp <;> with_reducible rfl)
            simp only [Act.put, List.setIfInBounds_toArray, List.set_cons_zero, List.set_cons_succ]
            refine wpAnyH_take (i := 5) (v := ?v5x4) rfl (by kernel_rfl) (by kernel_rfl) (by kernel_rfl) (fun _ _ _ h => h) (Or.inl ⟨by rfl, ?hy5x4⟩) (by assumption) ?rest5x4
            case hy5x4 => (intro w' hSw; (try dsimp only at hSw); go_simp <;> with_reducible rfl)
            simp only [Act.put, List.setIfInBounds_toArray, List.set_cons_zero, List.set_cons_succ]
            refine wpAnyH_take (i := 6) (v := ?v5x5) rfl (by kernel_rfl) (by kernel_rfl) (by kernel_rfl) (fun _ _ _ h => h) (Or.inl ⟨by rfl, ?hy5x5⟩) (by assumption) ?rest5x5
            case hy5x5 => (intro w' hSw; (try dsimp only at hSw); go_simp <;> with_reducible rfl)
            simp only [Act.put, List.setIfInBounds_toArray, List.set_cons_zero, List.set_cons_succ]
            refine wpAnyH_take (i := 7) (v := ?v5x6) rfl (by kernel_rfl) (by kernel_rfl) (by kernel_rfl) (fun _ _ _ h => h) (Or.inl ⟨by rfl, ?hy5x6⟩) (by assumption) ?rest5x6
            case hy5x6 => (intro w' hSw; (try dsimp only at hSw); go_simp <;> with_reducible rfl)
            simp only [Act.put, List.setIfInBounds_toArray, List.set_cons_zero, List.set_cons_succ]
            refine wpAnyH_take (i := 8) (v := ?v5x7) rfl (by kernel_rfl) (by kernel_rfl) (by kernel_rfl) (fun _ _ _ h => h) (Or.inl ⟨by rfl, ?hy5x7⟩) (by assumption) ?rest5x7
            case hy5x7 => (intro w' hSw; (try dsimp only at hSw); go_simp <;> with_reducible rfl)
            simp only [Act.put, List.setIfInBounds_toArray, List.set_cons_zero, List.set_cons_succ]
            refine wpAnyH_take (i := 9) (v := ?v5x8) rfl (by kernel_rfl) (by kernel_rfl) (by kernel_rfl) (fun _ _ _ h => h) (Or.inl ⟨by rfl, ?hy5x8⟩) (by assumption) ?rest5x8
            case hy5x8 => (intro w' hSw; (try dsimp only at hSw); go_simp <;> with_reducible rfl)
            simp only [Act.put, List.setIfInBounds_toArray, List.set_cons_zero, List.set_cons_succ]
            refine wpAnyH_take (i := 10) (v := ?v5x9) rfl (by kernel_rfl) (by kernel_rfl) (by kernel_rfl) (fun _ _ _ h => h) (Or.inl ⟨by rfl, ?hy5x9⟩) (by assumption) ?rest5x9
            case hy5x9 => (intro w' hSw; (try dsimp only at hSw); go_simp <;> with_reducible rfl)
            simp only [Act.put, List.setIfInBounds_toArray, List.set_cons_zero, List.set_cons_succ]
            refine wpAnyH_ready (rs := [1]) (by kernel_rfl) (by simp) ?_
            refine (AllReadyH.cons rfl (fun K hK => ?_) AllReadyH.nil)
            go_simp
            refine hK.out _ _ ?_ (fun hHeld => ?_)
            · (first | (with_reducible exact hHeld) | (with_reducible exact hk2) | (refine ⟨?_, ?_, ?_, ?_, ?_⟩ <;> simp only [World.cell?_setCell_far, ne_eq, hqb, not_false_eq_true, hk2.1, hk2.2.1, hk2.2.2.1, hk2.2.2.2.1, hk2.2.2.2.2]))
            clear hK K
            try simp only [Act.put, List.setIfInBounds_toArray, List.set_cons_zero, List.set_cons_succ]
            refine wpAnyH_ready (rs := [2]) (by kernel_rfl) (by simp) ?_
            refine (AllReadyH.cons rfl (fun K hK => ?_) AllReadyH.nil)
            go_simp
            (go_at_call 100; refine (hQr _).mono ?_; rintro e w2 ⟨rfl, hb2⟩; have HT2 := Lib.hid (HT1.out.below ((Below.refl _ _).drew.trans hb2)); obtain ⟨r0, r1, r2, r3, r4, g0, g1, g2, g3, g4⟩ := HT2.out.bx; simp only at r0 r1 r2 r3 r4; have hk2 := (HNM.out.keep (((Below.refl w1.heap.size w1).drew.trans hb2).block b (Nat.lt_trans hbl' HT1.out.siz))).parts5; have hz2 := HT2.out.siz; clear hb2)
            try go_wp2_with fail
            refine hK.out _ _ ?_ (fun hHeld => ?_)
            · (first | (with_reducible exact hHeld) | (with_reducible exact hk2) | (refine ⟨?_, ?_, ?_, ?_, ?_⟩ <;> simp only [World.cell?_setCell_far, ne_eq, hqb, not_false_eq_true, hk2.1, hk2.2.1, hk2.2.2.1, hk2.2.2.2.1, hk2.2.2.2.2]))
            clear hK K
            try simp only [Act.put, List.setIfInBounds_toArray, List.set_cons_zero, List.set_cons_succ]
            refine wpAnyH_ready (rs := [11]) (by kernel_rfl) (by simp) ?_
            refine (AllReadyH.cons rfl (fun K hK => ?_) AllReadyH.nil)
            go_simp
            refine hK.out _ _ ?_ (fun hHeld => ?_)
            · (first | (with_reducible exact hHeld) | (with_reducible exact hk2) | (refine ⟨?_, ?_, ?_, ?_, ?_⟩ <;> simp only [World.cell?_setCell_far, ne_eq, hqb, not_false_eq_true, hk2.1, hk2.2.1, hk2.2.2.1, hk2.2.2.2.1, hk2.2.2.2.2]))
            clear hK K
            try simp only [Act.put, List.setIfInBounds_toArray, List.set_cons_zero, List.set_cons_succ]
            refine wpAnyH_take (i := 12) (v := ?v5x10) rfl (by kernel_rfl) (by kernel_rfl) (by kernel_rfl) (fun _ _ _ h => h) (Or.inl ⟨by rfl, ?hy5x10⟩) (by assumption) ?rest5x10
            case hy5x10 => (intro w' hSw; (try dsimp only at hSw); go_simp <;> with_reducible rfl)
            simp only [Act.put, List.setIfInBounds_toArray, List.set_cons_zero, List.set_cons_succ]
            refine wpAnyH_take (i := 13) (v := ?v5x11) rfl (by kernel_rfl) (by kernel_rfl) (by kernel_rfl) (fun _ _ _ h => h) (Or.inl ⟨by rfl, ?hy5x11⟩) (by assumption) ?rest5x11
            case hy5x11 => (intro w' hSw; (try dsimp only at hSw); go_simp <;> with_reducible rfl)
            simp only [Act.put, List.setIfInBounds_toArray, List.set_cons_zero, List.set_cons_succ]
            refine wpAnyH_ready (rs := [14]) (by kernel_rfl) (by simp) ?_
            refine (AllReadyH.cons rfl (fun K hK => ?_) AllReadyH.nil)
            go_simp
            refine hK.out _ _ ?_ (fun hHeld => ?_)
            · (first | (with_reducible exact hHeld) | (with_reducible exact hk2) | (refine ⟨?_, ?_, ?_, ?_, ?_⟩ <;> simp only [World.cell?_setCell_far, ne_eq, hqb, not_false_eq_true, hk2.1, hk2.2.1, hk2.2.2.1, hk2.2.2.2.1, hk2.2.2.2.2]))
            clear hK K
            try simp only [Act.put, List.setIfInBounds_toArray, List.set_cons_zero, List.set_cons_succ]
            refine wpAnyH_done (by kernel_rfl) ?_ _
            refine NoPanic.normal ?_
            clear hk2 r0 r1 r2 r3 r4 g0 g1 g2 g3 g4 c0 c1 c2 c3 c4 f0 f1 f2 f3 f4 e0 e1 e2 e3 e4
            go_wp2
            go_roundw
            case rel => exact ⟨1, id, i % 2, j % 2, hm, rfl, by first | rfl | (congr 1; omega), by first | rfl | (congr 1; omega), HED.out, HQ2.out, HX1.out, HY1.out, HQ3.out, by rw [HME.out]; exact HPUT.out _ HT2.out⟩
            case measure => simp [intOf]
          · have HQ : Hid (quarter (⟨nt, ia, ib, ic, id⟩ : Nd) 2 i j = ib) := by show _ = _; simp [quarter, h1, h2]
            rw [HQ.out] at HQ1 HQ2 HQ3
            have hm : ib < l.length := by have := HQ1.out; omega
            have hdx : (i : Int) / 2 = 1 := by omega
            have hdy : (j : Int) / 2 = 0 := by omega
            have hix := fun w => index_quad1 (ia : Int) ib ic id w
            have hmi : (ib : Int) < (l.length : Int) := by omega
            obtain ⟨c0, c1, c2, c3, c4, f0, f1, f2, f3, f4⟩ := HTB.out.bx
            simp only at c0 c1 c2 c3 c4
            go_wp2_with fail
            refine (hSp _).mono ?_
            rintro e w1 ⟨rfl, hb1⟩
            have HT1 := Lib.hid (HTB.out.below hb1)
            clear hb1 c0 c1 c2 c3 c4 f0 f1 f2 f3 f4
            obtain ⟨c0, c1, c2, c3, c4, f0, f1, f2, f3, f4⟩ := HT1.out.bx
            simp only at c0 c1 c2 c3 c4
            obtain ⟨b', off', heq, hbl', hnm⟩ := HT1.out.ri.at_ hm
            simp only [Option.some.injEq, Addr.mk.injEq, and_true] at heq
            obtain ⟨rfl, rfl⟩ := heq
            have HNM := Lib.hid hnm
            have HPUT := Lib.hid (fun wr (h : TB w (some ⟨b, off, none⟩) l ⟨nt, ia, ib, ic, id⟩ wr) => h.put l[ib])
            generalize hme : l[ib] = m at *
            have HME := Lib.hid hme
            clear hme
            obtain ⟨mt, ma, mb, mc, md⟩ := m
            obtain ⟨e0, e1, e2, e3, e4⟩ := hnm
            simp only at e0 e1 e2 e3 e4
            have hqb : ¬ w.heap.size = b := by omega
            have hw0 : IntKind.i64.wrap 0 = 0 := by decide
            have hw1 : IntKind.i64.wrap 1 = 1 := by decide
            have hw2 : IntKind.i64.wrap 2 = 2 := by decide
            have hw3 : IntKind.i64.wrap 3 = 3 := by decide
            go_wp2_with fail
            refine wp_region_noPanic ?_
            refine wp_region_held_drew (S := (fun w' => w'.cell? ⟨b, off + ib * 5, none⟩ = some (.int .i64 mt) ∧ w'.cell? ⟨b, off + ib * 5 + 1, none⟩ = some (.int .i64 ma) ∧ w'.cell? ⟨b, off + ib * 5 + 2, none⟩ = some (.int .i64 mb) ∧ w'.cell? ⟨b, off + ib * 5 + 3, none⟩ = some (.int .i64 mc) ∧ w'.cell? ⟨b, off + ib * 5 + 4, none⟩ = some (.int .i64 md))) (by kernel_rfl) ⟨e0, e1, e2, e3, e4⟩ (fun hHeld => ?_)
            refine wpAnyH_take (i := 0) (v := ?v6x1) rfl (by kernel_rfl) (by kernel_rfl) (by kernel_rfl) (fun _ _ _ h => h) (Or.inl ⟨by rfl, ?hy6x1⟩) (by assumption) ?rest6x1
            case hy6x1 => (intro w' hSw; (try dsimp only at hSw); go_simp <;> with_reducible rfl)
            simp only [Act.put, List.setIfInBounds_toArray, List.set_cons_zero, List.set_cons_succ]
            refine wpAnyH_take (i := 3) (v := ?v6x2) rfl (by kernel_rfl) (by kernel_rfl) (by kernel_rfl) (fun _ _ _ h => h) (Or.inl ⟨by rfl, ?hy6x2⟩) (by assumption) ?rest6x2
            case hy6x2 => (intro w' hSw; (try dsimp only at hSw); go_simp <;> with_reducible rfl)
            simp only [Act.put, List.setIfInBounds_toArray, List.set_cons_zero, List.set_cons_succ]
            refine wpAnyH_take (i := 4) (v := ?v6x3) rfl (by kernel_rfl) (by kernel_rfl) (by kernel_rfl) (fun _ _ _ h => h) (Or.inl ⟨by rfl, ?hy6x3⟩) (by assumption) ?rest6x3
            case hy6x3 => (intro w' hSw; (try dsimp only at hSw); go_simp <;> with_reducible rfl)
            simp only [Act.put, List.setIfInBounds_toArray, List.set_cons_zero, List.set_cons_succ]
            refine wpAnyH_take (i := 5) (v := ?v6x4) rfl (by kernel_rfl) (by kernel_rfl) (by kernel_rfl) (fun _ _ _ h => h) (Or.inl ⟨by rfl, ?hy6x4⟩) (by assumption) ?rest6x4
            case hy6x4 => (intro w' hSw; (try dsimp only at hSw); go_simp <;> with_reducible rfl)
            simp only [Act.put, List.setIfInBounds_toArray, List.set_cons_zero, List.set_cons_succ]
            refine wpAnyH_take (i := 6) (v := ?v6x5) rfl (by kernel_rfl) (by kernel_rfl) (by kernel_rfl) (fun _ _ _ h => h) (Or.inl ⟨by rfl, ?hy6x5⟩) (by assumption) ?rest6x5
            case hy6x5 => (intro w' hSw; (try dsimp only at hSw); go_simp <;> with_reducible rfl)
            simp only [Act.put, List.setIfInBounds_toArray, List.set_cons_zero, List.set_cons_succ]
            refine wpAnyH_take (i := 7) (v := ?v6x6) rfl (by kernel_rfl) (by kernel_rfl) (by kernel_rfl) (fun _ _ _ h => h) (Or.inl ⟨by rfl, ?hy6x6⟩) (by assumption) ?rest6x6
            case hy6x6 => (intro w' hSw; (try dsimp only at hSw); go_simp <;> with_reducible rfl)
            simp only [Act.put, List.setIfInBounds_toArray, List.set_cons_zero, List.set_cons_succ]
            refine wpAnyH_take (i := 8) (v := ?v6x7) rfl (by kernel_rfl) (by kernel_rfl) (by kernel_rfl) (fun _ _ _ h => h) (Or.inl ⟨by rfl, ?hy6x7⟩) (by assumption) ?rest6x7
            case hy6x7 => (intro w' hSw; (try dsimp only at hSw); go_simp <;> with_reducible rfl)
            simp only [Act.put, List.setIfInBounds_toArray, List.set_cons_zero, List.set_cons_succ]
            refine wpAnyH_take (i := 9) (v := ?v6x8) rfl (by kernel_rfl) (by kernel_rfl) (by kernel_rfl) (fun _ _ _ h => h) (Or.inl ⟨by rfl, ?hy6x8⟩) (by assumption) ?rest6x8
            case hy6x8 => (intro w' hSw; (try dsimp only at hSw); go_simp <;> with_reducible rfl)
            simp only [Act.put, List.setIfInBounds_toArray, List.set_cons_zero, List.set_cons_succ]
            refine wpAnyH_take (i := 10) (v := ?v6x9) rfl (by kernel_rfl) (by kernel_rfl) (by kernel_rfl) (fun _ _ _ h => h) (Or.inl ⟨by rfl, ?hy6x9⟩) (by assumption) ?rest6x9
            case hy6x9 => (intro w' hSw; (try dsimp only at hSw); go_simp <;> with_reducible rfl)
            simp only [Act.put, List.setIfInBounds_toArray, List.set_cons_zero, List.set_cons_succ]
            refine wpAnyH_ready (rs := [1]) (by kernel_rfl) (by simp) ?_
            refine (AllReadyH.cons rfl (fun K hK => ?_) AllReadyH.nil)
            go_simp
            refine hK.out _ _ ?_ (fun hHeld => ?_)
            · (first | (with_reducible exact hHeld) | (with_reducible exact hk2) | (refine ⟨?_, ?_, ?_, ?_, ?_⟩ <;> simp only [World.cell?_setCell_far, ne_eq, hqb, not_false_eq_true, hk2.1, hk2.2.1, hk2.2.2.1, hk2.2.2.2.1, hk2.2.2.2.2]))
            clear hK K
            try simp only [Act.put, List.setIfInBounds_toArray, List.set_cons_zero, List.set_cons_succ]
            refine wpAnyH_ready (rs := [2]) (by kernel_rfl) (by simp) ?_
            refine (AllReadyH.cons rfl (fun K hK => ?_) AllReadyH.nil)
            go_simp
            (go_at_call 100; refine (hQr _).mono ?_; rintro e w2 ⟨rfl, hb2⟩; have HT2 := Lib.hid (HT1.out.below ((Below.refl _ _).drew.trans hb2)); obtain ⟨r0, r1, r2, r3, r4, g0, g1, g2, g3, g4⟩ := HT2.out.bx; simp only at r0 r1 r2 r3 r4; have hk2 := (HNM.out.keep (((Below.refl w1.heap.size w1).drew.trans hb2).block b (Nat.lt_trans hbl' HT1.out.siz))).parts5; have hz2 := HT2.out.siz; clear hb2)
            try go_wp2_with fail
            refine hK.out _ _ ?_ (fun hHeld => ?_)
            · (first | (with_reducible exact hHeld) | (with_reducible exact hk2) | (refine ⟨?_, ?_, ?_, ?_, ?_⟩ <;> simp only [World.cell?_setCell_far, ne_eq, hqb, not_false_eq_true, hk2.1, hk2.2.1, hk2.2.2.1, hk2.2.2.2.1, hk2.2.2.2.2]))
            clear hK K
            try simp only [Act.put, List.setIfInBounds_toArray, List.set_cons_zero, List.set_cons_succ]
            refine wpAnyH_ready (rs := [11]) (by kernel_rfl) (by simp) ?_
            refine (AllReadyH.cons rfl (fun K hK => ?_) AllReadyH.nil)
            go_simp
            refine hK.out _ _ ?_ (fun hHeld => ?_)
            · (first | (with_reducible exact hHeld) | (with_reducible exact hk2) | (refine ⟨?_, ?_, ?_, ?_, ?_⟩ <;> simp only [World.cell?_setCell_far, ne_eq, hqb, not_false_eq_true, hk2.1, hk2.2.1, hk2.2.2.1, hk2.2.2.2.1, hk2.2.2.2.2]))
            clear hK K
            try simp only [Act.put, List.setIfInBounds_toArray, List.set_cons_zero, List.set_cons_succ]
            refine wpAnyH_take (i := 12) (v := ?v6x10) rfl (by kernel_rfl) (by kernel_rfl) (by kernel_rfl) (fun _ _ _ h => h) (Or.inl ⟨by rfl, ?hy6x10⟩) (by assumption) ?rest6x10
            case hy6x10 => (intro w' hSw; (try dsimp only at hSw); go_simp <;> with_reducible rfl)
            simp only [Act.put, List.setIfInBounds_toArray, List.set_cons_zero, List.set_cons_succ]
            refine wpAnyH_take (i := 13) (v := ?v6x11) rfl (by kernel_rfl) (by kernel_rfl) (by kernel_rfl) (fun _ _ _ h => h) (Or.inl ⟨by rfl, ?hy6x11⟩) (by assumption) ?rest6x11
            case hy6x11 => (intro w' hSw; (try dsimp only at hSw); go_simp <;> with_reducible rfl)
            simp only [Act.put, List.setIfInBounds_toArray, List.set_cons_zero, List.set_cons_succ]
            refine wpAnyH_ready (rs := [14]) (by kernel_rfl) (by simp) ?_
            refine (AllReadyH.cons rfl (fun K hK => ?_) AllReadyH.nil)
            go_simp
            refine hK.out _ _ ?_ (fun hHeld => ?_)
            · (first | (with_reducible exact hHeld) | (with_reducible exact hk2) | (refine ⟨?_, ?_, ?_, ?_, ?_⟩ <;> simp only [World.cell?_setCell_far, ne_eq, hqb, not_false_eq_true, hk2.1, hk2.2.1, hk2.2.2.1, hk2.2.2.2.1, hk2.2.2.2.2]))
            clear hK K
            try simp only [Act.put, List.setIfInBounds_toArray, List.set_cons_zero, List.set_cons_succ]
            refine wpAnyH_done (by kernel_rfl) ?_ _
            refine NoPanic.normal ?_
            clear hk2 r0 r1 r2 r3 r4 g0 g1 g2 g3 g4 c0 c1 c2 c3 c4 f0 f1 f2 f3 f4 e0 e1 e2 e3 e4
            go_wp2
            go_roundw
            case rel => exact ⟨1, ib, i % 2, j % 2, hm, rfl, by first | rfl | (congr 1; omega), by first | rfl | (congr 1; omega), HED.out, HQ2.out, HX1.out, HY1.out, HQ3.out, by rw [HME.out]; exact HPUT.out _ HT2.out⟩
            case measure => simp [intOf]
        · by_cases h2 : 2 ≤ j
          · have HQ : Hid (quarter (⟨nt, ia, ib, ic, id⟩ : Nd) 2 i j = ic) := by show _ = _; simp [quarter, h1, h2]
            rw [HQ.out] at HQ1 HQ2 HQ3
            have hm : ic < l.length := by have := HQ1.out; omega
            have hdx : (i : Int) / 2 = 0 := by omega
            have hdy : (j : Int) / 2 = 1 := by omega
            have hix := fun w => index_quad2 (ia : Int) ib ic id w
            have hmi : (ic : Int) < (l.length : Int) := by omega
            obtain ⟨c0, c1, c2, c3, c4, f0, f1, f2, f3, f4⟩ := HTB.out.bx
            simp only at c0 c1 c2 c3 c4
            go_wp2_with fail
            refine (hSp _).mono ?_
            rintro e w1 ⟨rfl, hb1⟩
            have HT1 := Lib.hid (HTB.out.below hb1)
            clear hb1 c0 c1 c2 c3 c4 f0 f1 f2 f3 f4
            obtain ⟨c0, c1, c2, c3, c4, f0, f1, f2, f3, f4⟩ := HT1.out.bx
            simp only at c0 c1 c2 c3 c4
            obtain ⟨b', off', heq, hbl', hnm⟩ := HT1.out.ri.at_ hm
            simp only [Option.some.injEq, Addr.mk.injEq, and_true] at heq
            obtain ⟨rfl, rfl⟩ := heq
            have HNM := Lib.hid hnm
            have HPUT := Lib.hid (fun wr (h : TB w (some ⟨b, off, none⟩) l ⟨nt, ia, ib, ic, id⟩ wr) => h.put l[ic])
            generalize hme : l[ic] = m at *
            have HME := Lib.hid hme
            clear hme
            obtain ⟨mt, ma, mb, mc, md⟩ := m
            obtain ⟨e0, e1, e2, e3, e4⟩ := hnm
            simp only at e0 e1 e2 e3 e4
            have hqb : ¬ w.heap.size = b := by omega
            have hw0 : IntKind.i64.wrap 0 = 0 := by decide
            have hw1 : IntKind.i64.wrap 1 = 1 := by decide
            have hw2 : IntKind.i64.wrap 2 = 2 := by decide
            have hw3 : IntKind.i64.wrap 3 = 3 := by decide
            go_wp2_with fail
            refine wp_region_noPanic ?_
            refine wp_region_held_drew (S := (fun w' => w'.cell? ⟨b, off + ic * 5, none⟩ = some (.int .i64 mt) ∧ w'.cell? ⟨b, off + ic * 5 + 1, none⟩ = some (.int .i64 ma) ∧ w'.cell? ⟨b, off + ic * 5 + 2, none⟩ = some (.int .i64 mb) ∧ w'.cell? ⟨b, off + ic * 5 + 3, none⟩ = some (.int .i64 mc) ∧ w'.cell? ⟨b, off + ic * 5 + 4, none⟩ = some (.int .i64 md))) (by kernel_rfl) ⟨e0, e1, e2, e3, e4⟩ (fun hHeld => ?_)
            refine wpAnyH_take (i := 0) (v := ?v7x1) rfl (by kernel_rfl) (by kernel_rfl) (by kernel_rfl) (fun _ _ _ h => h) (Or.inl ⟨by rfl, ?hy7x1⟩) (by assumption) ?rest7x1
            case hy7x1 => (intro w' hSw; (try dsimp only at hSw); go_simp <;> with_reducible rfl)
            simp only [Act.put, List.setIfInBounds_toArray, List.set_cons_zero, List.set_cons_succ]
            refine wpAnyH_take (i := 3) (v := ?v7x2) rfl (by kernel_rfl) (by kernel_rfl) (by kernel_rfl) (fun _ _ _ h => h) (Or.inl ⟨by rfl, ?hy7x2⟩) (by assumption) ?rest7x2
            case hy7x2 => (intro w' hSw; (try dsimp only at hSw); go_simp <;> with_reducible rfl)
            simp only [Act.put, List.setIfInBounds_toArray, List.set_cons_zero, List.set_cons_succ]
            refine wpAnyH_take (i := 4) (v := ?v7x3) rfl (by kernel_rfl) (by kernel_rfl) (by kernel_rfl) (fun _ _ _ h => h) (Or.inl ⟨by rfl, ?hy7x3⟩) (by assumption) ?rest7x3
            case hy7x3 => (intro w' hSw; (try dsimp only at hSw); go_simp <;> with_reducible rfl)
            simp only [Act.put, List.setIfInBounds_toArray, List.set_cons_zero, List.set_cons_succ]
            refine wpAnyH_take (i := 5) (v := ?v7x4) rfl (by kernel_rfl) (by kernel_rfl) (by kernel_rfl) (fun _ _ _ h => h) (Or.inl ⟨by rfl, ?hy7x4⟩) (by assumption) ?rest7x4
            case hy7x4 => (intro w' hSw; (try dsimp only at hSw); go_simp <;> with_reducible rfl)
            simp only [Act.put, List.setIfInBounds_toArray, List.set_cons_zero, List.set_cons_succ]
            refine wpAnyH_take (i := 6) (v := ?v7x5) rfl (by kernel_rfl) (by kernel_rfl) (by kernel_rfl) (fun _ _ _ h => h) (Or.inl ⟨by rfl, ?hy7x5⟩) (by assumption) ?rest7x5
            case hy7x5 => (intro w' hSw; (try dsimp only at hSw); go_simp <;> with_reducible rfl)
            simp only [Act.put, List.setIfInBounds_toArray, List.set_cons_zero, List.set_cons_succ]
            refine wpAnyH_take (i := 7) (v := ?v7x6) rfl (by kernel_rfl) (by kernel_rfl) (by kernel_rfl) (fun _ _ _ h => h) (Or.inl ⟨by rfl, ?hy7x6⟩) (by assumption) ?rest7x6
            case hy7x6 => (intro w' hSw; (try dsimp only at hSw); go_simp <;> with_reducible rfl)
            simp only [Act.put, List.setIfInBounds_toArray, List.set_cons_zero, List.set_cons_succ]
            refine wpAnyH_take (i := 8) (v := ?v7x7) rfl (by kernel_rfl) (by kernel_rfl) (by kernel_rfl) (fun _ _ _ h => h) (Or.inl ⟨by rfl, ?hy7x7⟩) (by assumption) ?rest7x7
            case hy7x7 => (intro w' hSw; (try dsimp only at hSw); go_simp <;> with_reducible rfl)
            simp only [Act.put, List.setIfInBounds_toArray, List.set_cons_zero, List.set_cons_succ]
            refine wpAnyH_take (i := 9) (v := ?v7x8) rfl (by kernel_rfl) (by kernel_rfl) (by kernel_rfl) (fun _ _ _ h => h) (Or.inl ⟨by rfl, ?hy7x8⟩) (by assumption) ?rest7x8
            case hy7x8 => (intro w' hSw; (try dsimp only at hSw); go_simp <;> with_reducible rfl)
            simp only [Act.put, List.setIfInBounds_toArray, List.set_cons_zero, List.set_cons_succ]
            refine wpAnyH_take (i := 10) (v := ?v7x9) rfl (by kernel_rfl) (by kernel_rfl) (by kernel_rfl) (fun _ _ _ h => h) (Or.inl ⟨by rfl, ?hy7x9⟩) (by assumption) ?rest7x9
            case hy7x9 => (intro w' hSw; (try dsimp only at hSw); go_simp <;> with_reducible rfl)
            simp only [Act.put, List.setIfInBounds_toArray, List.set_cons_zero, List.set_cons_succ]
            refine wpAnyH_ready (rs := [1]) (by kernel_rfl) (by simp) ?_
            refine (AllReadyH.cons rfl (fun K hK => ?_) AllReadyH.nil)
            go_simp
            refine hK.out _ _ ?_ (fun hHeld => ?_)
            · (first | (with_reducible exact hHeld) | (with_reducible exact hk2) | (refine ⟨?_, ?_, ?_, ?_, ?_⟩ <;> simp only [World.cell?_setCell_far, ne_eq, hqb, not_false_eq_true, hk2.1, hk2.2.1, hk2.2.2.1, hk2.2.2.2.1, hk2.2.2.2.2]))
            clear hK K
            try simp only [Act.put, List.setIfInBounds_toArray, List.set_cons_zero, List.set_cons_succ]
            refine wpAnyH_ready (rs := [2]) (by kernel_rfl) (by simp) ?_
            refine (AllReadyH.cons rfl (fun K hK => ?_) AllReadyH.nil)
            go_simp
            (go_at_call 100; refine (hQr _).mono ?_; rintro e w2 ⟨rfl, hb2⟩; have HT2 := Lib.hid (HT1.out.below ((Below.refl _ _).drew.trans hb2)); obtain ⟨r0, r1, r2, r3, r4, g0, g1, g2, g3, g4⟩ := HT2.out.bx; simp only at r0 r1 r2 r3 r4; have hk2 := (HNM.out.keep (((Below.refl w1.heap.size w1).drew.trans hb2).block b (Nat.lt_trans hbl' HT1.out.siz))).parts5; have hz2 := HT2.out.siz; clear hb2)
            try go_wp2_with fail
            refine hK.out _ _ ?_ (fun hHeld => ?_)
            · (first | (with_reducible exact hHeld) | (with_reducible exact hk2) | (refine ⟨?_, ?_, ?_, ?_, ?_⟩ <;> simp only [World.cell?_setCell_far, ne_eq, hqb, not_false_eq_true, hk2.1, hk2.2.1, hk2.2.2.1, hk2.2.2.2.1, hk2.2.2.2.2]))
            clear hK K
            try simp only [Act.put, List.setIfInBounds_toArray, List.set_cons_zero, List.set_cons_succ]
            refine wpAnyH_ready (rs := [11]) (by kernel_rfl) (by simp) ?_
            refine (AllReadyH.cons rfl (fun K hK => ?_) AllReadyH.nil)
            go_simp
            refine hK.out _ _ ?_ (fun hHeld => ?_)
            · (first | (with_reducible exact hHeld) | (with_reducible exact hk2) | (refine ⟨?_, ?_, ?_, ?_, ?_⟩ <;> simp only [World.cell?_setCell_far, ne_eq, hqb, not_false_eq_true, hk2.1, hk2.2.1, hk2.2.2.1, hk2.2.2.2.1, hk2.2.2.2.2]))
            clear hK K
            try simp only [Act.put, List.setIfInBounds_toArray, List.set_cons_zero, List.set_cons_succ]
            refine wpAnyH_take (i := 12) (v := ?v7x10) rfl (by kernel_rfl) (by kernel_rfl) (by kernel_rfl) (fun _ _ _ h => h) (Or.inl ⟨by rfl, ?hy7x10⟩) (by assumption) ?rest7x10
            case hy7x10 => (intro w' hSw; (try dsimp only at hSw); go_simp <;> with_reducible rfl)
            simp only [Act.put, List.setIfInBounds_toArray, List.set_cons_zero, List.set_cons_succ]
            refine wpAnyH_take (i := 13) (v := ?v7x11) rfl (by kernel_rfl) (by kernel_rfl) (by kernel_rfl) (fun _ _ _ h => h) (Or.inl ⟨by rfl, ?hy7x11⟩) (by assumption) ?rest7x11
            case hy7x11 => (intro w' hSw; (try dsimp only at hSw); go_simp <;> with_reducible rfl)
            simp only [Act.put, List.setIfInBounds_toArray, List.set_cons_zero, List.set_cons_succ]
            refine wpAnyH_ready (rs := [14]) (by kernel_rfl) (by simp) ?_
            refine (AllReadyH.cons rfl (fun K hK => ?_) AllReadyH.nil)
            go_simp
            refine hK.out _ _ ?_ (fun hHeld => ?_)
            · (first | (with_reducible exact hHeld) | (with_reducible exact hk2) | (refine ⟨?_, ?_, ?_, ?_, ?_⟩ <;> simp only [World.cell?_setCell_far, ne_eq, hqb, not_false_eq_true, hk2.1, hk2.2.1, hk2.2.2.1, hk2.2.2.2.1, hk2.2.2.2.2]))
            clear hK K
            try simp only [Act.put, List.setIfInBounds_toArray, List.set_cons_zero, List.set_cons_succ]
            refine wpAnyH_done (by kernel_rfl) ?_ _
            refine NoPanic.normal ?_
            clear hk2 r0 r1 r2 r3 r4 g0 g1 g2 g3 g4 c0 c1 c2 c3 c4 f0 f1 f2 f3 f4 e0 e1 e2 e3 e4
            go_wp2
            go_roundw
            case rel => exact ⟨1, ic, i % 2, j % 2, hm, rfl, by first | rfl | (congr 1; omega), by first | rfl | (congr 1; omega), HED.out, HQ2.out, HX1.out, HY1.out, HQ3.out, by rw [HME.out]; exact HPUT.out _ HT2.out⟩
            case measure => simp [intOf]
          · have HQ : Hid (quarter (⟨nt, ia, ib, ic, id⟩ : Nd) 2 i j = ia) := by show _ = _; simp [quarter, h1, h2]
            rw [HQ.out] at HQ1 HQ2 HQ3
            have hm : ia < l.length := by have := HQ1.out; omega
            have hdx : (i : Int) / 2 = 0 := by omega
            have hdy : (j : Int) / 2 = 0 := by omega
            have hix := fun w => index_quad0 (ia : Int) ib ic id w
            have hmi : (ia : Int) < (l.length : Int) := by omega
            obtain ⟨c0, c1, c2, c3, c4, f0, f1, f2, f3, f4⟩ := HTB.out.bx
            simp only at c0 c1 c2 c3 c4
            go_wp2_with fail
            refine (hSp _).mono ?_
            rintro e w1 ⟨rfl, hb1⟩
            have HT1 := Lib.hid (HTB.out.below hb1)
            clear hb1 c0 c1 c2 c3 c4 f0 f1 f2 f3 f4
            obtain ⟨c0, c1, c2, c3, c4, f0, f1, f2, f3, f4⟩ := HT1.out.bx
            simp only at c0 c1 c2 c3 c4
            obtain ⟨b', off', heq, hbl', hnm⟩ := HT1.out.ri.at_ hm
            simp only [Option.some.injEq, Addr.mk.injEq, and_true] at heq
            obtain ⟨rfl, rfl⟩ := heq
            have HNM := Lib.hid hnm
            have HPUT := Lib.hid (fun wr (h : TB w (some ⟨b, off, none⟩) l ⟨nt, ia, ib, ic, id⟩ wr) => h.put l[ia])
            generalize hme : l[ia] = m at *
            have HME := Lib.hid hme
            clear hme
            obtain ⟨mt, ma, mb, mc, md⟩ := m
            obtain ⟨e0, e1, e2, e3, e4⟩ := hnm
            simp only at e0 e1 e2 e3 e4
            have hqb : ¬ w.heap.size = b := by omega
            have hw0 : IntKind.i64.wrap 0 = 0 := by decide
            have hw1 : IntKind.i64.wrap 1 = 1 := by decide
            have hw2 : IntKind.i64.wrap 2 = 2 := by decide
            have hw3 : IntKind.i64.wrap 3 = 3 := by decide
            go_wp2_with fail
            refine wp_region_noPanic ?_
            refine wp_region_held_drew (S := (fun w' => w'.cell? ⟨b, off + ia * 5, none⟩ = some (.int .i64 mt) ∧ w'.cell? ⟨b, off + ia * 5 + 1, none⟩ = some (.int .i64 ma) ∧ w'.cell? ⟨b, off + ia * 5 + 2, none⟩ = some (.int .i64 mb) ∧ w'.cell? ⟨b, off + ia * 5 + 3, none⟩ = some (.int .i64 mc) ∧ w'.cell? ⟨b, off + ia * 5 + 4, none⟩ = some (.int .i64 md))) (by kernel_rfl) ⟨e0, e1, e2, e3, e4⟩ (fun hHeld => ?_)
            refine wpAnyH_take (i := 0) (v := ?v8x1) rfl (by kernel_rfl) (by kernel_rfl) (by kernel_rfl) (fun _ _ _ h => h) (Or.inl ⟨by rfl, ?hy8x1⟩) (by assumption) ?rest8x1
            case hy8x1 => (intro w' hSw; (try dsimp only at hSw); go_simp <;> with_reducible rfl)
            simp only [Act.put, List.setIfInBounds_toArray, List.set_cons_zero, List.set_cons_succ]
            refine wpAnyH_take (i := 3) (v := ?v8x2) rfl (by kernel_rfl) (by kernel_rfl) (by kernel_rfl) (fun _ _ _ h => h) (Or.inl ⟨by rfl, ?hy8x2⟩) (by assumption) ?rest8x2
            case hy8x2 => (intro w' hSw; (try dsimp only at hSw); go_simp <;> with_reducible rfl)
            simp only [Act.put, List.setIfInBounds_toArray, List.set_cons_zero, List.set_cons_succ]
            refine wpAnyH_take (i := 4) (v := ?v8x3) rfl (by kernel_rfl) (by kernel_rfl) (by kernel_rfl) (fun _ _ _ h => h) (Or.inl ⟨by rfl, ?hy8x3⟩) (by assumption) ?rest8x3
            case hy8x3 => (intro w' hSw; (try dsimp only at hSw); go_simp <;> with_reducible rfl)
            simp only [Act.put, List.setIfInBounds_toArray, List.set_cons_zero, List.set_cons_succ]
            refine wpAnyH_take (i := 5) (v := ?v8x4) rfl (by kernel_rfl) (by kernel_rfl) (by kernel_rfl) (fun _ _ _ h => h) (Or.inl ⟨by rfl, ?hy8x4⟩) (by assumption) ?rest8x4
            case hy8x4 => (intro w' hSw; (try dsimp only at hSw); go_simp <;> with_reducible rfl)
            simp only [Act.put, List.setIfInBounds_toArray, List.set_cons_zero, List.set_cons_succ]
            refine wpAnyH_take (i := 6) (v := ?v8x5) rfl (by kernel_rfl) (by kernel_rfl) (by kernel_rfl) (fun _ _ _ h => h) (Or.inl ⟨by rfl, ?hy8x5⟩) (by assumption) ?rest8x5
            case hy8x5 => (intro w' hSw; (try dsimp only at hSw); go_simp <;> with_reducible rfl)
            simp only [Act.put, List.setIfInBounds_toArray, List.set_cons_zero, List.set_cons_succ]
            refine wpAnyH_take (i := 7) (v := ?v8x6) rfl (by kernel_rfl) (by kernel_rfl) (by kernel_rfl) (fun _ _ _ h => h) (Or.inl ⟨by rfl, ?hy8x6⟩) (by assumption) ?rest8x6
            case hy8x6 => (intro w' hSw; (try dsimp only at hSw); go_simp <;> with_reducible rfl)
            simp only [Act.put, List.setIfInBounds_toArray, List.set_cons_zero, List.set_cons_succ]
            refine wpAnyH_take (i := 8) (v := ?v8x7) rfl (by kernel_rfl) (by kernel_rfl) (by kernel_rfl) (fun _ _ _ h => h) (Or.inl ⟨by rfl, ?hy8x7⟩) (by assumption) ?rest8x7
            case hy8x7 => (intro w' hSw; (try dsimp only at hSw); go_simp <;> with_reducible rfl)
            simp only [Act.put, List.setIfInBounds_toArray, List.set_cons_zero, List.set_cons_succ]
            refine wpAnyH_take (i := 9) (v := ?v8x8) rfl (by kernel_rfl) (by kernel_rfl) (by kernel_rfl) (fun _ _ _ h => h) (Or.inl ⟨by rfl, ?hy8x8⟩) (by assumption) ?rest8x8
            case hy8x8 => (intro w' hSw; (try dsimp only at hSw); go_simp <;> with_reducible rfl)
            simp only [Act.put, List.setIfInBounds_toArray, List.set_cons_zero, List.set_cons_succ]
            refine wpAnyH_take (i := 10) (v := ?v8x9) rfl (by kernel_rfl) (by kernel_rfl) (by kernel_rfl) (fun _ _ _ h => h) (Or.inl ⟨by rfl, ?hy8x9⟩) (by assumption) ?rest8x9
            case hy8x9 => (intro w' hSw; (try dsimp only at hSw); go_simp <;> with_reducible rfl)
            simp only [Act.put, List.setIfInBounds_toArray, List.set_cons_zero, List.set_cons_succ]
            refine wpAnyH_ready (rs := [1]) (by kernel_rfl) (by simp) ?_
            refine (AllReadyH.cons rfl (fun K hK => ?_) AllReadyH.nil)
            go_simp
            refine hK.out _ _ ?_ (fun hHeld => ?_)
            · (first | (with_reducible exact hHeld) | (with_reducible exact hk2) | (refine ⟨?_, ?_, ?_, ?_, ?_⟩ <;> simp only [World.cell?_setCell_far, ne_eq, hqb, not_false_eq_true, hk2.1, hk2.2.1, hk2.2.2.1, hk2.2.2.2.1, hk2.2.2.2.2]))
            clear hK K
            try simp only [Act.put, List.setIfInBounds_toArray, List.set_cons_zero, List.set_cons_succ]
            refine wpAnyH_ready (rs := [2]) (by kernel_rfl) (by simp) ?_
            refine (AllReadyH.cons rfl (fun K hK => ?_) AllReadyH.nil)
            go_simp
            (go_at_call 100; refine (hQr _).mono ?_; rintro e w2 ⟨rfl, hb2⟩; have HT2 := Lib.hid (HT1.out.below ((Below.refl _ _).drew.trans hb2)); obtain ⟨r0, r1, r2, r3, r4, g0, g1, g2, g3, g4⟩ := HT2.out.bx; simp only at r0 r1 r2 r3 r4; have hk2 := (HNM.out.keep (((Below.refl w1.heap.size w1).drew.trans hb2).block b (Nat.lt_trans hbl' HT1.out.siz))).parts5; have hz2 := HT2.out.siz; clear hb2)
            try go_wp2_with fail
            refine hK.out _ _ ?_ (fun hHeld => ?_)
            · (first | (with_reducible exact hHeld) | (with_reducible exact hk2) | (refine ⟨?_, ?_, ?_, ?_, ?_⟩ <;> simp only [World.cell?_setCell_far, ne_eq, hqb, not_false_eq_true, hk2.1, hk2.2.1, hk2.2.2.1, hk2.2.2.2.1, hk2.2.2.2.2]))
            clear hK K
            try simp only [Act.put, List.setIfInBounds_toArray, List.set_cons_zero, List.set_cons_succ]
            refine wpAnyH_ready (rs := [11]) (by kernel_rfl) (by simp) ?_
            refine (AllReadyH.cons rfl (fun K hK => ?_) AllReadyH.nil)
            go_simp
            refine hK.out _ _ ?_ (fun hHeld => ?_)
            · (first | (with_reducible exact hHeld) | (with_reducible exact hk2) | (refine ⟨?_, ?_, ?_, ?_, ?_⟩ <;> simp only [World.cell?_setCell_far, ne_eq, hqb, not_false_eq_true, hk2.1, hk2.2.1, hk2.2.2.1, hk2.2.2.2.1, hk2.2.2.2.2]))
            clear hK K
            try simp only [Act.put, List.setIfInBounds_toArray, List.set_cons_zero, List.set_cons_succ]
            refine wpAnyH_take (i := 12) (v := ?v8x10) rfl (by kernel_rfl) (by kernel_rfl) (by kernel_rfl) (fun _ _ _ h => h) (Or.inl ⟨by rfl, ?hy8x10⟩) (by assumption) ?rest8x10
            case hy8x10 => (intro w' hSw; (try dsimp only at hSw); go_simp <;> with_reducible rfl)
            simp only [Act.put, List.setIfInBounds_toArray, List.set_cons_zero, List.set_cons_succ]
            refine wpAnyH_take (i := 13) (v := ?v8x11) rfl (by kernel_rfl) (by kernel_rfl) (by kernel_rfl) (fun _ _ _ h => h) (Or.inl ⟨by rfl, ?hy8x11⟩) (by assumption) ?rest8x11
            case hy8x11 => (intro w' hSw; (try dsimp only at hSw); go_simp <;> with_reducible rfl)
            simp only [Act.put, List.setIfInBounds_toArray, List.set_cons_zero, List.set_cons_succ]
            refine wpAnyH_ready (rs := [14]) (by kernel_rfl) (by simp) ?_
            refine (AllReadyH.cons rfl (fun K hK => ?_) AllReadyH.nil)
            go_simp
            refine hK.out _ _ ?_ (fun hHeld => ?_)
            · (first | (with_reducible exact hHeld) | (with_reducible exact hk2) | (refine ⟨?_, ?_, ?_, ?_, ?_⟩ <;> simp only [World.cell?_setCell_far, ne_eq, hqb, not_false_eq_true, hk2.1, hk2.2.1, hk2.2.2.1, hk2.2.2.2.1, hk2.2.2.2.2]))
            clear hK K
            try simp only [Act.put, List.setIfInBounds_toArray, List.set_cons_zero, List.set_cons_succ]
            refine wpAnyH_done (by kernel_rfl) ?_ _
            refine NoPanic.normal ?_
            clear hk2 r0 r1 r2 r3 r4 g0 g1 g2 g3 g4 c0 c1 c2 c3 c4 f0 f1 f2 f3 f4 e0 e1 e2 e3 e4
            go_wp2
            go_roundw
            case rel => exact ⟨1, ia, i % 2, j % 2, hm, rfl, by first | rfl | (congr 1; omega), by first | rfl | (congr 1; omega), HED.out, HQ2.out, HX1.out, HY1.out, HQ3.out, by rw [HME.out]; exact HPUT.out _ HT2.out⟩
            case measure => simp [intOf]
      · simp only [Nat.reduceAdd, Nat.reducePow] at *
        have i8 : (i : Int) < 8 := by omega
        have j8 : (j : Int) < 8 := by omega
        by_cases h1 : 4 ≤ i
        · by_cases h2 : 4 ≤ j
          · have HQ : Hid (quarter (⟨nt, ia, ib, ic, id⟩ : Nd) 4 i j = id) := by show _ = _; simp [quarter, h1, h2]
            rw [HQ.out] at HQ1 HQ2 HQ3
            have hm : id < l.length := by have := HQ1.out; omega
            have hdx : (i : Int) / 4 = 1 := by omega
            have hdy : (j : Int) / 4 = 1 := by omega
            have hix := fun w => index_quad3 (ia : Int) ib ic id w
            have hmi : (id : Int) < (l.length : Int) := by omega
            obtain ⟨c0, c1, c2, c3, c4, f0, f1, f2, f3, f4⟩ := HTB.out.bx
            simp only at c0 c1 c2 c3 c4
            go_wp2_with fail
            refine (hSp _).mono ?_
            rintro e w1 ⟨rfl, hb1⟩
            have HT1 := Lib.hid (HTB.out.below hb1)
            clear hb1 c0 c1 c2 c3 c4 f0 f1 f2 f3 f4
            obtain ⟨c0, c1, c2, c3, c4, f0, f1, f2, f3, f4⟩ := HT1.out.bx
            simp only at c0 c1 c2 c3 c4
            obtain ⟨b', off', heq, hbl', hnm⟩ := HT1.out.ri.at_ hm
            simp only [Option.some.injEq, Addr.mk.injEq, and_true] at heq
            obtain ⟨rfl, rfl⟩ := heq
            have HNM := Lib.hid hnm
            have HPUT := Lib.hid (fun wr (h : TB w (some ⟨b, off, none⟩) l ⟨nt, ia, ib, ic, id⟩ wr) => h.put l[id])
            generalize hme : l[id] = m at *
            have HME := Lib.hid hme
            clear hme
            obtain ⟨mt, ma, mb, mc, md⟩ := m
            obtain ⟨e0, e1, e2, e3, e4⟩ := hnm
            simp only at e0 e1 e2 e3 e4
            have hqb : ¬ w.heap.size = b := by omega
            have hw0 : IntKind.i64.wrap 0 = 0 := by decide
            have hw1 : IntKind.i64.wrap 1 = 1 := by decide
            have hw2 : IntKind.i64.wrap 2 = 2 := by decide
            have hw3 : IntKind.i64.wrap 3 = 3 := by decide
            go_wp2_with fail
            refine wp_region_noPanic ?_
            refine wp_region_held_drew (S := (fun w' => w'.cell? ⟨b, off + id * 5, none⟩ = some (.int .i64 mt) ∧ w'.cell? ⟨b, off + id * 5 + 1, none⟩ = some (.int .i64 ma) ∧ w'.cell? ⟨b, off + id * 5 + 2, none⟩ = some (.int .i64 mb) ∧ w'.cell? ⟨b, off + id * 5 + 3, none⟩ = some (.int .i64 mc) ∧ w'.cell? ⟨b, off + id * 5 + 4, none⟩ = some (.int .i64 md))) (by kernel_rfl) ⟨e0, e1, e2, e3, e4⟩ (fun hHeld => ?_)
            refine wpAnyH_take (i := 0) (v := ?v9x1) rfl (by kernel_rfl) (by kernel_rfl) (by kernel_rfl) (fun _ _ _ h => h) (Or.inl ⟨by rfl, ?hy9x1⟩) (by assumption) ?rest9x1
            case hy9x1 => (intro w' hSw; (try dsimp only at hSw); go_simp <;> with_reducible rfl)
            simp only [Act.put, List.setIfInBounds_toArray, List.set_cons_zero, List.set_cons_succ]
            refine wpAnyH_take (i := 3) (v := ?v9x2) rfl (by kernel_rfl) (by kernel_rfl) (by kernel_rfl) (fun _ _ _ h => h) (Or.inl ⟨by rfl, ?hy9x2⟩) (by assumption) ?rest9x2
            case hy9x2 => (intro w' hSw; (try dsimp only at hSw); go_simp <;> with_reducible rfl)
            simp only [Act.put, List.setIfInBounds_toArray, List.set_cons_zero, List.set_cons_succ]
            refine wpAnyH_take (i := 4) (v := ?v9x3) rfl (by kernel_rfl) (by kernel_rfl) (by kernel_rfl) (fun _ _ _ h => h) (Or.inl ⟨by rfl, ?hy9x3⟩) (by assumption) ?rest9x3
            case hy9x3 => (intro w' hSw; (try dsimp only at hSw); go_simp <;> with_reducible rfl)
            simp only [Act.put, List.setIfInBounds_toArray, List.set_cons_zero, List.set_cons_succ]
            refine wpAnyH_take (i := 5) (v := ?v9x4) rfl (by kernel_rfl) (by kernel_rfl) (by kernel_rfl) (fun _ _ _ h => h) (Or.inl ⟨by rfl, ?hy9x4⟩) (by assumption) ?rest9x4
            case hy9x4 => (intro w' hSw; (try dsimp only at hSw); go_simp <;> with_reducible rfl)
            simp only [Act.put, List.setIfInBounds_toArray, List.set_cons_zero, List.set_cons_succ]
            refine wpAnyH_take (i := 6) (v := ?v9x5) rfl (by kernel_rfl) (by kernel_rfl) (by kernel_rfl) (fun _ _ _ h => h) (Or.inl ⟨by rfl, ?hy9x5⟩) (by assumption) ?rest9x5
            case hy9x5 => (intro w' hSw; (try dsimp only at hSw); go_simp <;> with_reducible rfl)
            simp only [Act.put, List.setIfInBounds_toArray, List.set_cons_zero, List.set_cons_succ]
            refine wpAnyH_take (i := 7) (v := ?v9x6) rfl (by kernel_rfl) (by kernel_rfl) (by kernel_rfl) (fun _ _ _ h => h) (Or.inl ⟨by rfl, ?hy9x6⟩) (by assumption) ?rest9x6
            case hy9x6 => (intro w' hSw; (try dsimp only at hSw); go_simp <;> with_reducible rfl)
            simp only [Act.put, List.setIfInBounds_toArray, List.set_cons_zero, List.set_cons_succ]
            refine wpAnyH_take (i := 8) (v := ?v9x7) rfl (by kernel_rfl) (by kernel_rfl) (by kernel_rfl) (fun _ _ _ h => h) (Or.inl ⟨by rfl, ?hy9x7⟩) (by assumption) ?rest9x7
            case hy9x7 => (intro w' hSw; (try dsimp only at hSw); go_simp <;> with_reducible rfl)
            simp only [Act.put, List.setIfInBounds_toArray, List.set_cons_zero, List.set_cons_succ]
            refine wpAnyH_take (i := 9) (v := ?v9x8) rfl (by kernel_rfl) (by kernel_rfl) (by kernel_rfl) (fun _ _ _ h => h) (Or.inl ⟨by rfl, ?hy9x8⟩) (by assumption) ?rest9x8
            case hy9x8 => (intro w' hSw; (try dsimp only at hSw); go_simp <;> with_reducible rfl)
            simp only [Act.put, List.setIfInBounds_toArray, List.set_cons_zero, List.set_cons_succ]
            refine wpAnyH_take (i := 10) (v := ?v9x9) rfl (by kernel_rfl) (by kernel_rfl) (by kernel_rfl) (fun _ _ _ h => h) (Or.inl ⟨by rfl, ?hy9x9⟩) (by assumption) ?rest9x9
            case hy9x9 => (intro w' hSw; (try dsimp only at hSw); go_simp <;> with_reducible rfl)
            simp only [Act.put, List.setIfInBounds_toArray, List.set_cons_zero, List.set_cons_succ]
            refine wpAnyH_ready (rs := [1]) (by kernel_rfl) (by simp) ?_
            refine (AllReadyH.cons rfl (fun K hK => ?_) AllReadyH.nil)
            go_simp
            refine hK.out _ _ ?_ (fun hHeld => ?_)
            · (first | (with_reducible exact hHeld) | (with_reducible exact hk2) | (refine ⟨?_, ?_, ?_, ?_, ?_⟩ <;> simp only [World.cell?_setCell_far, ne_eq, hqb, not_false_eq_true, hk2.1, hk2.2.1, hk2.2.2.1, hk2.2.2.2.1, hk2.2.2.2.2]))
            clear hK K
            try simp only [Act.put, List.setIfInBounds_toArray, List.set_cons_zero, List.set_cons_succ]
            refine wpAnyH_ready (rs := [2]) (by kernel_rfl) (by simp) ?_
            refine (AllReadyH.cons rfl (fun K hK => ?_) AllReadyH.nil)
            go_simp
            (go_at_call 100; refine (hQr _).mono ?_; rintro e w2 ⟨rfl, hb2⟩; have HT2 := Lib.hid (HT1.out.below ((Below.refl _ _).drew.trans hb2)); obtain ⟨r0, r1, r2, r3, r4, g0, g1, g2, g3, g4⟩ := HT2.out.bx; simp only at r0 r1 r2 r3 r4; have hk2 := (HNM.out.keep (((Below.refl w1.heap.size w1).drew.trans hb2).block b (Nat.lt_trans hbl' HT1.out.siz))).parts5; have hz2 := HT2.out.siz; clear hb2)
            try go_wp2_with fail
            refine hK.out _ _ ?_ (fun hHeld => ?_)
            · (first | (with_reducible exact hHeld) | (with_reducible exact hk2) | (refine ⟨?_, ?_, ?_, ?_, ?_⟩ <;> simp only [World.cell?_setCell_far, ne_eq, hqb, not_false_eq_true, hk2.1, hk2.2.1, hk2.2.2.1, hk2.2.2.2.1, hk2.2.2.2.2]))
            clear hK K
            try simp only [Act.put, List.setIfInBounds_toArray, List.set_cons_zero, List.set_cons_succ]
            refine wpAnyH_ready (rs := [11]) (by kernel_rfl) (by simp) ?_
            refine (AllReadyH.cons rfl (fun K hK => ?_) AllReadyH.nil)
            go_simp
            refine hK.out _ _ ?_ (fun hHeld => ?_)
            · (first | (with_reducible exact hHeld) | (with_reducible exact hk2) | (refine ⟨?_, ?_, ?_, ?_, ?_⟩ <;> simp only [World.cell?_setCell_far, ne_eq, hqb, not_false_eq_true, hk2.1, hk2.2.1, hk2.2.2.1, hk2.2.2.2.1, hk2.2.2.2.2]))
            clear hK K
            try simp only [Act.put, List.setIfInBounds_toArray, List.set_cons_zero, List.set_cons_succ]
            refine wpAnyH_take (i := 12) (v := ?v9x10) rfl (by kernel_rfl) (by kernel_rfl) (by kernel_rfl) (fun _ _ _ h => h) (Or.inl ⟨by rfl, ?hy9x10⟩) (by assumption) ?rest9x10
            case hy9x10 => (intro w' hSw; (try dsimp only at hSw); go_simp <;> with_reducible rfl)
            simp only [Act.put, List.setIfInBounds_toArray, List.set_cons_zero, List.set_cons_succ]
            refine wpAnyH_take (i := 13) (v := ?v9x11) rfl (by kernel_rfl) (by kernel_rfl) (by kernel_rfl) (fun _ _ _ h => h) (Or.inl ⟨by rfl, ?hy9x11⟩) (by assumption) ?rest9x11
            case hy9x11 => (intro w' hSw; (try dsimp only at hSw); go_simp <;> with_reducible rfl)
            simp only [Act.put, List.setIfInBounds_toArray, List.set_cons_zero, List.set_cons_succ]
            refine wpAnyH_ready (rs := [14]) (by kernel_rfl) (by simp) ?_
            refine (AllReadyH.cons rfl (fun K hK => ?_) AllReadyH.nil)
            go_simp
            refine hK.out _ _ ?_ (fun hHeld => ?_)
            · (first | (with_reducible exact hHeld) | (with_reducible exact hk2) | (refine ⟨?_, ?_, ?_, ?_, ?_⟩ <;> simp only [World.cell?_setCell_far, ne_eq, hqb, not_false_eq_true, hk2.1, hk2.2.1, hk2.2.2.1, hk2.2.2.2.1, hk2.2.2.2.2]))
            clear hK K
            try simp only [Act.put, List.setIfInBounds_toArray, List.set_cons_zero, List.set_cons_succ]
            refine wpAnyH_done (by kernel_rfl) ?_ _
            refine NoPanic.normal ?_
            clear hk2 r0 r1 r2 r3 r4 g0 g1 g2 g3 g4 c0 c1 c2 c3 c4 f0 f1 f2 f3 f4 e0 e1 e2 e3 e4
            go_wp2
            go_roundw
            case rel => exact ⟨2, id, i % 4, j % 4, hm, rfl, by first | rfl | (congr 1; omega), by first | rfl | (congr 1; omega), HED.out, HQ2.out, HX1.out, HY1.out, HQ3.out, by rw [HME.out]; exact HPUT.out _ HT2.out⟩
            case measure => simp [intOf]
          · have HQ : Hid (quarter (⟨nt, ia, ib, ic, id⟩ : Nd) 4 i j = ib) := by show _ = _; simp [quarter, h1, h2]
            rw [HQ.out] at HQ1 HQ2 HQ3
            have hm : ib < l.length := by have := HQ1.out; omega
            have hdx : (i : Int) / 4 = 1 := by omega
            have hdy : (j : Int) / 4 = 0 := by omega
            have hix := fun w => index_quad1 (ia : Int) ib ic id w
            have hmi : (ib : Int) < (l.length : Int) := by omega
            obtain ⟨c0, c1, c2, c3, c4, f0, f1, f2, f3, f4⟩ := HTB.out.bx
            simp only at c0 c1 c2 c3 c4
            go_wp2_with fail
            refine (hSp _).mono ?_
            rintro e w1 ⟨rfl, hb1⟩
            have HT1 := Lib.hid (HTB.out.below hb1)
            clear hb1 c0 c1 c2 c3 c4 f0 f1 f2 f3 f4
            obtain ⟨c0, c1, c2, c3, c4, f0, f1, f2, f3, f4⟩ := HT1.out.bx
            simp only at c0 c1 c2 c3 c4
            obtain ⟨b', off', heq, hbl', hnm⟩ := HT1.out.ri.at_ hm
            simp only [Option.some.injEq, Addr.mk.injEq, and_true] at heq
            obtain ⟨rfl, rfl⟩ := heq
            have HNM := Lib.hid hnm
            have HPUT := Lib.hid (fun wr (h : TB w (some ⟨b, off, none⟩) l ⟨nt, ia, ib, ic, id⟩ wr) => h.put l[ib])
            generalize hme : l[ib] = m at *
            have HME := Lib.hid hme
            clear hme
            obtain ⟨mt, ma, mb, mc, md⟩ := m
            obtain ⟨e0, e1, e2, e3, e4⟩ := hnm
            simp only at e0 e1 e2 e3 e4
            have hqb : ¬ w.heap.size = b := by omega
            have hw0 : IntKind.i64.wrap 0 = 0 := by decide
            have hw1 : IntKind.i64.wrap 1 = 1 := by decide
            have hw2 : IntKind.i64.wrap 2 = 2 := by decide
            have hw3 : IntKind.i64.wrap 3 = 3 := by decide
            go_wp2_with fail
            refine wp_region_noPanic ?_
            refine wp_region_held_drew (S := (fun w' => w'.cell? ⟨b, off + ib * 5, none⟩ = some (.int .i64 mt) ∧ w'.cell? ⟨b, off + ib * 5 + 1, none⟩ = some (.int .i64 ma) ∧ w'.cell? ⟨b, off + ib * 5 + 2, none⟩ = some (.int .i64 mb) ∧ w'.cell? ⟨b, off + ib * 5 + 3, none⟩ = some (.int .i64 mc) ∧ w'.cell? ⟨b, off + ib * 5 + 4, none⟩ = some (.int .i64 md))) (by kernel_rfl) ⟨e0, e1, e2, e3, e4⟩ (fun hHeld => ?_)
            refine wpAnyH_take (i := 0) (v := ?v10x1) rfl (by kernel_rfl) (by kernel_rfl) (by kernel_rfl) (fun _ _ _ h => h) (Or.inl ⟨by rfl, ?hy10x1⟩) (by assumption) ?rest10x1
            case hy10x1 => (intro w' hSw; (try dsimp only at hSw); go_simp <;> with_reducible rfl)
            simp only [Act.put, List.setIfInBounds_toArray, List.set_cons_zero, List.set_cons_succ]
            refine wpAnyH_take (i := 3) (v := ?v10x2) rfl (by kernel_rfl) (by kernel_rfl) (by kernel_rfl) (fun _ _ _ h => h) (Or.inl ⟨by rfl, ?hy10x2⟩) (by assumption) ?rest10x2
            case hy10x2 => (intro w' hSw; (try dsimp only at hSw); go_simp <;> with_reducible rfl)
            simp only [Act.put, List.setIfInBounds_toArray, List.set_cons_zero, List.set_cons_succ]
            refine wpAnyH_take (i := 4) (v := ?v10x3) rfl (by kernel_rfl) (by kernel_rfl) (by kernel_rfl) (fun _ _ _ h => h) (Or.inl ⟨by rfl, ?hy10x3⟩) (by assumption) ?rest10x3
            case hy10x3 => (intro w' hSw; (try dsimp only at hSw); go_simp <;> with_reducible rfl)
            simp only [Act.put, List.setIfInBounds_toArray, List.set_cons_zero, List.set_cons_succ]
            refine wpAnyH_take (i := 5) (v := ?v10x4) rfl (by kernel_rfl) (by kernel_rfl) (by kernel_rfl) (fun _ _ _ h => h) (Or.inl ⟨by rfl, ?hy10x4⟩) (by assumption) ?rest10x4
            case hy10x4 => (intro w' hSw; (try dsimp only at hSw); go_simp <;> with_reducible rfl)
            simp only [Act.put, List.setIfInBounds_toArray, List.set_cons_zero, List.set_cons_succ]
            refine wpAnyH_take (i := 6) (v := ?v10x5) rfl (by kernel_rfl) (by kernel_rfl) (by kernel_rfl) (fun _ _ _ h => h) (Or.inl ⟨by rfl, ?hy10x5⟩) (by assumption) ?rest10x5
            case hy10x5 => (intro w' hSw; (try dsimp only at hSw); go_simp <;> with_reducible rfl)
            simp only [Act.put, List.setIfInBounds_toArray, List.set_cons_zero, List.set_cons_succ]
            refine wpAnyH_take (i := 7) (v := ?v10x6) rfl (by kernel_rfl) (by kernel_rfl) (by kernel_rfl) (fun _ _ _ h => h) (Or.inl ⟨by rfl, ?hy10x6⟩) (by assumption) ?rest10x6
            case hy10x6 => (intro w' hSw; (try dsimp only at hSw); go_simp <;> with_reducible rfl)
            simp only [Act.put, List.setIfInBounds_toArray, List.set_cons_zero, List.set_cons_succ]
            refine wpAnyH_take (i := 8) (v := ?v10x7) rfl (by kernel_rfl) (by kernel_rfl) (by kernel_rfl) (fun _ _ _ h => h) (Or.inl ⟨by rfl, ?hy10x7⟩) (by assumption) ?rest10x7
            case hy10x7 => (intro w' hSw; (try dsimp only at hSw); go_simp <;> with_reducible rfl)
            simp only [Act.put, List.setIfInBounds_toArray, List.set_cons_zero, List.set_cons_succ]
            refine wpAnyH_take (i := 9) (v := ?v10x8) rfl (by kernel_rfl) (by kernel_rfl) (by kernel_rfl) (fun _ _ _ h => h) (Or.inl ⟨by rfl, ?hy10x8⟩) (by assumption) ?rest10x8
            case hy10x8 => (intro w' hSw; (try dsimp only at hSw); go_simp <;> with_reducible rfl)
            simp only [Act.put, List.setIfInBounds_toArray, List.set_cons_zero, List.set_cons_succ]
            refine wpAnyH_take (i := 10) (v := ?v10x9) rfl (by kernel_rfl) (by kernel_rfl) (by kernel_rfl) (fun _ _ _ h => h) (Or.inl ⟨by rfl, ?hy10x9⟩) (by assumption) ?rest10x9
            case hy10x9 => (intro w' hSw; (try dsimp only at hSw); go_simp <;> with_reducible rfl)
            simp only [Act.put, List.setIfInBounds_toArray, List.set_cons_zero, List.set_cons_succ]
            refine wpAnyH_ready (rs := [1]) (by kernel_rfl) (by simp) ?_
            refine (AllReadyH.cons rfl (fun K hK => ?_) AllReadyH.nil)
            go_simp
            refine hK.out _ _ ?_ (fun hHeld => ?_)
            · (first | (with_reducible exact hHeld) | (with_reducible exact hk2) | (refine ⟨?_, ?_, ?_, ?_, ?_⟩ <;> simp only [World.cell?_setCell_far, ne_eq, hqb, not_false_eq_true, hk2.1, hk2.2.1, hk2.2.2.1, hk2.2.2.2.1, hk2.2.2.2.2]))
            clear hK K
            try simp only [Act.put, List.setIfInBounds_toArray, List.set_cons_zero, List.set_cons_succ]
            refine wpAnyH_ready (rs := [2]) (by kernel_rfl) (by simp) ?_
            refine (AllReadyH.cons rfl (fun K hK => ?_) AllReadyH.nil)
            go_simp
            (go_at_call 100; refine (hQr _).mono ?_; rintro e w2 ⟨rfl, hb2⟩; have HT2 := Lib.hid (HT1.out.below ((Below.refl _ _).drew.trans hb2)); obtain ⟨r0, r1, r2, r3, r4, g0, g1, g2, g3, g4⟩ := HT2.out.bx; simp only at r0 r1 r2 r3 r4; have hk2 := (HNM.out.keep (((Below.refl w1.heap.size w1).drew.trans hb2).block b (Nat.lt_trans hbl' HT1.out.siz))).parts5; have hz2 := HT2.out.siz; clear hb2)
            try go_wp2_with fail
            refine hK.out _ _ ?_ (fun hHeld => ?_)
            · (first | (with_reducible exact hHeld) | (with_reducible exact hk2) | (refine ⟨?_, ?_, ?_, ?_, ?_⟩ <;> simp only [World.cell?_setCell_far, ne_eq, hqb, not_false_eq_true, hk2.1, hk2.2.1, hk2.2.2.1, hk2.2.2.2.1, hk2.2.2.2.2]))
            clear hK K
            try simp only [Act.put, List.setIfInBounds_toArray, List.set_cons_zero, List.set_cons_succ]
            refine wpAnyH_ready (rs := [11]) (by kernel_rfl) (by simp) ?_
            refine (AllReadyH.cons rfl (fun K hK => ?_) AllReadyH.nil)
            go_simp
            refine hK.out _ _ ?_ (fun hHeld => ?_)
            · (first | (with_reducible exact hHeld) | (with_reducible exact hk2) | (refine ⟨?_, ?_, ?_, ?_, ?_⟩ <;> simp only [World.cell?_setCell_far, ne_eq, hqb, not_false_eq_true, hk2.1, hk2.2.1, hk2.2.2.1, hk2.2.2.2.1, hk2.2.2.2.2]))
            clear hK K
            try simp only [Act.put, List.setIfInBounds_toArray, List.set_cons_zero, List.set_cons_succ]
            refine wpAnyH_take (i := 12) (v := ?v10x10) rfl (by kernel_rfl) (by kernel_rfl) (by kernel_rfl) (fun _ _ _ h => h) (Or.inl ⟨by rfl, ?hy10x10⟩) (by assumption) ?rest10x10
            case hy10x10 => (intro w' hSw; (try dsimp only at hSw); go_simp <;> with_reducible rfl)
            simp only [Act.put, List.setIfInBounds_toArray, List.set_cons_zero, List.set_cons_succ]
            refine wpAnyH_take (i := 13) (v := ?v10x11) rfl (by kernel_rfl) (by kernel_rfl) (by kernel_rfl) (fun _ _ _ h => h) (Or.inl ⟨by rfl, ?hy10x11⟩) (by assumption) ?rest10x11
            case hy10x11 => (intro w' hSw; (try dsimp only at hSw); go_simp <;> with_reducible rfl)
            simp only [Act.put, List.setIfInBounds_toArray, List.set_cons_zero, List.set_cons_succ]
            refine wpAnyH_ready (rs := [14]) (by kernel_rfl) (by simp) ?_
            refine (AllReadyH.cons rfl (fun K hK => ?_) AllReadyH.nil)
            go_simp
            refine hK.out _ _ ?_ (fun hHeld => ?_)
            · (first | (with_reducible exact hHeld) | (with_reducible exact hk2) | (refine ⟨?_, ?_, ?_, ?_, ?_⟩ <;> simp only [World.cell?_setCell_far, ne_eq, hqb, not_false_eq_true, hk2.1, hk2.2.1, hk2.2.2.1, hk2.2.2.2.1, hk2.2.2.2.2]))
            clear hK K
            try simp only [Act.put, List.setIfInBounds_toArray, List.set_cons_zero, List.set_cons_succ]
            refine wpAnyH_done (by kernel_rfl) ?_ _
            refine NoPanic.normal ?_
            clear hk2 r0 r1 r2 r3 r4 g0 g1 g2 g3 g4 c0 c1 c2 c3 c4 f0 f1 f2 f3 f4 e0 e1 e2 e3 e4
            go_wp2
            go_roundw
            case rel => exact ⟨2, ib, i % 4, j % 4, hm, rfl, by first | rfl | (congr 1; omega), by first | rfl | (congr 1; omega), HED.out, HQ2.out, HX1.out, HY1.out, HQ3.out, by rw [HME.out]; exact HPUT.out _ HT2.out⟩
            case measure => simp [intOf]
        · by_cases h2 : 4 ≤ j
          · have HQ : Hid (quarter (⟨nt, ia, ib, ic, id⟩ : Nd) 4 i j = ic) := by show _ = _; simp [quarter, h1, h2]
            rw [HQ.out] at HQ1 HQ2 HQ3
            have hm : ic < l.length := by have := HQ1.out; omega
            have hdx : (i : Int) / 4 = 0 := by omega
            have hdy : (j : Int) / 4 = 1 := by omega
            have hix := fun w => index_quad2 (ia : Int) ib ic id w
            have hmi : (ic : Int) < (l.length : Int) := by omega
            obtain ⟨c0, c1, c2, c3, c4, f0, f1, f2, f3, f4⟩ := HTB.out.bx
            simp only at c0 c1 c2 c3 c4
            go_wp2_with fail
            refine (hSp _).mono ?_
            rintro e w1 ⟨rfl, hb1⟩
            have HT1 := Lib.hid (HTB.out.below hb1)
            clear hb1 c0 c1 c2 c3 c4 f0 f1 f2 f3 f4
            obtain ⟨c0, c1, c2, c3, c4, f0, f1, f2, f3, f4⟩ := HT1.out.bx
            simp only at c0 c1 c2 c3 c4
            obtain ⟨b', off', heq, hbl', hnm⟩ := HT1.out.ri.at_ hm
            simp only [Option.some.injEq, Addr.mk.injEq, and_true] at heq
            obtain ⟨rfl, rfl⟩ := heq
            have HNM := Lib.hid hnm
            have HPUT := Lib.hid (fun wr (h : TB w (some ⟨b, off, none⟩) l ⟨nt, ia, ib, ic, id⟩ wr) => h.put l[ic])
            generalize hme : l[ic] = m at *
            have HME := Lib.hid hme
            clear hme
            obtain ⟨mt, ma, mb, mc, md⟩ := m
            obtain ⟨e0, e1, e2, e3, e4⟩ := hnm
            simp only at e0 e1 e2 e3 e4
            have hqb : ¬ w.heap.size = b := by omega
            have hw0 : IntKind.i64.wrap 0 = 0 := by decide
            have hw1 : IntKind.i64.wrap 1 = 1 := by decide
            have hw2 : IntKind.i64.wrap 2 = 2 := by decide
            have hw3 : IntKind.i64.wrap 3 = 3 := by decide
            go_wp2_with fail
            refine wp_region_noPanic ?_
            refine wp_region_held_drew (S := (fun w' => w'.cell? ⟨b, off + ic * 5, none⟩ = some (.int .i64 mt) ∧ w'.cell? ⟨b, off + ic * 5 + 1, none⟩ = some (.int .i64 ma) ∧ w'.cell? ⟨b, off + ic * 5 + 2, none⟩ = some (.int .i64 mb) ∧ w'.cell? ⟨b, off + ic * 5 + 3, none⟩ = some (.int .i64 mc) ∧ w'.cell? ⟨b, off + ic * 5 + 4, none⟩ = some (.int .i64 md))) (by kernel_rfl) ⟨e0, e1, e2, e3, e4⟩ (fun hHeld => ?_)
            refine wpAnyH_take (i := 0) (v := ?v11x1) rfl (by kernel_rfl) (by kernel_rfl) (by kernel_rfl) (fun _ _ _ h => h) (Or.inl ⟨by rfl, ?hy11x1⟩) (by assumption) ?rest11x1
            case hy11x1 => (intro w' hSw; (try dsimp only at hSw); go_simp <;> with_reducible rfl)
            simp only [Act.put, List.setIfInBounds_toArray, List.set_cons_zero, List.set_cons_succ]
            refine wpAnyH_take (i := 3) (v := ?v11x2) rfl (by kernel_rfl) (by kernel_rfl) (by kernel_rfl) (fun _ _ _ h => h) (Or.inl ⟨by rfl, ?hy11x2⟩) (by assumption) ?rest11x2
            case hy11x2 => (intro w' hSw; (try dsimp only at hSw); go_simp <;> with_reducible rfl)
            simp only [Act.put, List.setIfInBounds_toArray, List.set_cons_zero, List.set_cons_succ]
            refine wpAnyH_take (i := 4) (v := ?v11x3) rfl (by kernel_rfl) (by kernel_rfl) (by kernel_rfl) (fun _ _ _ h => h) (Or.inl ⟨by rfl, ?hy11x3⟩) (by assumption) ?rest11x3
            case hy11x3 => (intro w' hSw; (try dsimp only at hSw); go_simp <;> with_reducible rfl)
            simp only [Act.put, List.setIfInBounds_toArray, List.set_cons_zero, List.set_cons_succ]
            refine wpAnyH_take (i := 5) (v := ?v11x4) rfl (by kernel_rfl) (by kernel_rfl) (by kernel_rfl) (fun _ _ _ h => h) (Or.inl ⟨by rfl, ?hy11x4⟩) (by assumption) ?rest11x4
            case hy11x4 => (intro w' hSw; (try dsimp only at hSw); go_simp <;> with_reducible rfl)
            simp only [Act.put, List.setIfInBounds_toArray, List.set_cons_zero, List.set_cons_succ]
            refine wpAnyH_take (i := 6) (v := ?v11x5) rfl (by kernel_rfl) (by kernel_rfl) (by kernel_rfl) (fun _ _ _ h => h) (Or.inl ⟨by rfl, ?hy11x5⟩) (by assumption) ?rest11x5
            case hy11x5 => (intro w' hSw; (try dsimp only at hSw); go_simp <;> with_reducible rfl)
            simp only [Act.put, List.setIfInBounds_toArray, List.set_cons_zero, List.set_cons_succ]
            refine wpAnyH_take (i := 7) (v := ?v11x6) rfl (by kernel_rfl) (by kernel_rfl) (by kernel_rfl) (fun _ _ _ h => h) (Or.inl ⟨by rfl, ?hy11x6⟩) (by assumption) ?rest11x6
            case hy11x6 => (intro w' hSw; (try dsimp only at hSw); go_simp <;> with_reducible rfl)
            simp only [Act.put, List.setIfInBounds_toArray, List.set_cons_zero, List.set_cons_succ]
            refine wpAnyH_take (i := 8) (v := ?v11x7) rfl (by kernel_rfl) (by kernel_rfl) (by kernel_rfl) (fun _ _ _ h => h) (Or.inl ⟨by rfl, ?hy11x7⟩) (by assumption) ?rest11x7
            case hy11x7 => (intro w' hSw; (try dsimp only at hSw); go_simp <;> with_reducible rfl)
            simp only [Act.put, List.setIfInBounds_toArray, List.set_cons_zero, List.set_cons_succ]
            refine wpAnyH_take (i := 9) (v := ?v11x8) rfl (by kernel_rfl) (by kernel_rfl) (by kernel_rfl) (fun _ _ _ h => h) (Or.inl ⟨by rfl, ?hy11x8⟩) (by assumption) ?rest11x8
            case hy11x8 => (intro w' hSw; (try dsimp only at hSw); go_simp <;> with_reducible rfl)
            simp only [Act.put, List.setIfInBounds_toArray, List.set_cons_zero, List.set_cons_succ]
            refine wpAnyH_take (i := 10) (v := ?v11x9) rfl (by kernel_rfl) (by kernel_rfl) (by kernel_rfl) (fun _ _ _ h => h) (Or.inl ⟨by rfl, ?hy11x9⟩) (by assumption) ?rest11x9
            case hy11x9 => (intro w' hSw; (try dsimp only at hSw); go_simp <;> with_reducible rfl)
            simp only [Act.put, List.setIfInBounds_toArray, List.set_cons_zero, List.set_cons_succ]
            refine wpAnyH_ready (rs := [1]) (by kernel_rfl) (by simp) ?_
            refine (AllReadyH.cons rfl (fun K hK => ?_) AllReadyH.nil)
            go_simp
            refine hK.out _ _ ?_ (fun hHeld => ?_)
            · (first | (with_reducible exact hHeld) | (with_reducible exact hk2) | (refine ⟨?_, ?_, ?_, ?_, ?_⟩ <;> simp only [World.cell?_setCell_far, ne_eq, hqb, not_false_eq_true, hk2.1, hk2.2.1, hk2.2.2.1, hk2.2.2.2.1, hk2.2.2.2.2]))
            clear hK K
            try simp only [Act.put, List.setIfInBounds_toArray, List.set_cons_zero, List.set_cons_succ]
            refine wpAnyH_ready (rs := [2]) (by kernel_rfl) (by simp) ?_
            refine (AllReadyH.cons rfl (fun K hK => ?_) AllReadyH.nil)
            go_simp
            (go_at_call 100; refine (hQr _).mono ?_; rintro e w2 ⟨rfl, hb2⟩; have HT2 := Lib.hid (HT1.out.below ((Below.refl _ _).drew.trans hb2)); obtain ⟨r0, r1, r2, r3, r4, g0, g1, g2, g3, g4⟩ := HT2.out.bx; simp only at r0 r1 r2 r3 r4; have hk2 := (HNM.out.keep (((Below.refl w1.heap.size w1).drew.trans hb2).block b (Nat.lt_trans hbl' HT1.out.siz))).parts5; have hz2 := HT2.out.siz; clear hb2)
            try go_wp2_with fail
            refine hK.out _ _ ?_ (fun hHeld => ?_)
            · (first | (with_reducible exact hHeld) | (with_reducible exact hk2) | (refine ⟨?_, ?_, ?_, ?_, ?_⟩ <;> simp only [World.cell?_setCell_far, ne_eq, hqb, not_false_eq_true, hk2.1, hk2.2.1, hk2.2.2.1, hk2.2.2.2.1, hk2.2.2.2.2]))
            clear hK K
            try simp only [Act.put, List.setIfInBounds_toArray, List.set_cons_zero, List.set_cons_succ]
            refine wpAnyH_ready (rs := [11]) (by kernel_rfl) (by simp) ?_
            refine (AllReadyH.cons rfl (fun K hK => ?_) AllReadyH.nil)
            go_simp
            refine hK.out _ _ ?_ (fun hHeld => ?_)
            · (first | (with_reducible exact hHeld) | (with_reducible exact hk2) | (refine ⟨?_, ?_, ?_, ?_, ?_⟩ <;> simp only [World.cell?_setCell_far, ne_eq, hqb, not_false_eq_true, hk2.1, hk2.2.1, hk2.2.2.1, hk2.2.2.2.1, hk2.2.2.2.2]))
            clear hK K
            try simp only [Act.put, List.setIfInBounds_toArray, List.set_cons_zero, List.set_cons_succ]
            refine wpAnyH_take (i := 12) (v := ?v11x10) rfl (by kernel_rfl) (by kernel_rfl) (by kernel_rfl) (fun _ _ _ h => h) (Or.inl ⟨by rfl, ?hy11x10⟩) (by assumption) ?rest11x10
            case hy11x10 => (intro w' hSw; (try dsimp only at hSw); go_simp <;> with_reducible rfl)
            simp only [Act.put, List.setIfInBounds_toArray, List.set_cons_zero, List.set_cons_succ]
            refine wpAnyH_take (i := 13) (v := ?v11x11) rfl (by kernel_rfl) (by kernel_rfl) (by kernel_rfl) (fun _ _ _ h => h) (Or.inl ⟨by rfl, ?hy11x11⟩) (by assumption) ?rest11x11
            case hy11x11 => (intro w' hSw; (try dsimp only at hSw); go_simp <;> with_reducible rfl)
            simp only [Act.put, List.setIfInBounds_toArray, List.set_cons_zero, List.set_cons_succ]
            refine wpAnyH_ready (rs := [14]) (by kernel_rfl) (by simp) ?_
            refine (AllReadyH.cons rfl (fun K hK => ?_) AllReadyH.nil)
            go_simp
            refine hK.out _ _ ?_ (fun hHeld => ?_)
            · (first | (with_reducible exact hHeld) | (with_reducible exact hk2) | (refine ⟨?_, ?_, ?_, ?_, ?_⟩ <;> simp only [World.cell?_setCell_far, ne_eq, hqb, not_false_eq_true, hk2.1, hk2.2.1, hk2.2.2.1, hk2.2.2.2.1, hk2.2.2.2.2]))
            clear hK K
            try simp only [Act.put, List.setIfInBounds_toArray, List.set_cons_zero, List.set_cons_succ]
            refine wpAnyH_done (by kernel_rfl) ?_ _
            refine NoPanic.normal ?_
            clear hk2 r0 r1 r2 r3 r4 g0 g1 g2 g3 g4 c0 c1 c2 c3 c4 f0 f1 f2 f3 f4 e0 e1 e2 e3 e4
            go_wp2
            go_roundw
            case rel => exact ⟨2, ic, i % 4, j % 4, hm, rfl, by first | rfl | (congr 1; omega), by first | rfl | (congr 1; omega), HED.out, HQ2.out, HX1.out, HY1.out, HQ3.out, by rw [HME.out]; exact HPUT.out _ HT2.out⟩
            case measure => simp [intOf]
          · have HQ : Hid (quarter (⟨nt, ia, ib, ic, id⟩ : Nd) 4 i j = ia) := by show _ = _; simp [quarter, h1, h2]
            rw [HQ.out] at HQ1 HQ2 HQ3
            have hm : ia < l.length := by have := HQ1.out; omega
            have hdx : (i : Int) / 4 = 0 := by omega
            have hdy : (j : Int) / 4 = 0 := by omega
            have hix := fun w => index_quad0 (ia : Int) ib ic id w
            have hmi : (ia : Int) < (l.length : Int) := by omega
            obtain ⟨c0, c1, c2, c3, c4, f0, f1, f2, f3, f4⟩ := HTB.out.bx
            simp only at c0 c1 c2 c3 c4
            go_wp2_with fail
            refine (hSp _).mono ?_
            rintro e w1 ⟨rfl, hb1⟩
            have HT1 := Lib.hid (HTB.out.below hb1)
            clear hb1 c0 c1 c2 c3 c4 f0 f1 f2 f3 f4
            obtain ⟨c0, c1, c2, c3, c4, f0, f1, f2, f3, f4⟩ := HT1.out.bx
            simp only at c0 c1 c2 c3 c4
            obtain ⟨b', off', heq, hbl', hnm⟩ := HT1.out.ri.at_ hm
            simp only [Option.some.injEq, Addr.mk.injEq, and_true] at heq
            obtain ⟨rfl, rfl⟩ := heq
            have HNM := Lib.hid hnm
            have HPUT := Lib.hid (fun wr (h : TB w (some ⟨b, off, none⟩) l ⟨nt, ia, ib, ic, id⟩ wr) => h.put l[ia])
            generalize hme : l[ia] = m at *
            have HME := Lib.hid hme
            clear hme
            obtain ⟨mt, ma, mb, mc, md⟩ := m
            obtain ⟨e0, e1, e2, e3, e4⟩ := hnm
            simp only at e0 e1 e2 e3 e4
            have hqb : ¬ w.heap.size = b := by omega
            have hw0 : IntKind.i64.wrap 0 = 0 := by decide
            have hw1 : IntKind.i64.wrap 1 = 1 := by decide
            have hw2 : IntKind.i64.wrap 2 = 2 := by decide
            have hw3 : IntKind.i64.wrap 3 = 3 := by decide
            go_wp2_with fail
            refine wp_region_noPanic ?_
            refine wp_region_held_drew (S := (fun w' => w'.cell? ⟨b, off + ia * 5, none⟩ = some (.int .i64 mt) ∧ w'.cell? ⟨b, off + ia * 5 + 1, none⟩ = some (.int .i64 ma) ∧ w'.cell? ⟨b, off + ia * 5 + 2, none⟩ = some (.int .i64 mb) ∧ w'.cell? ⟨b, off + ia * 5 + 3, none⟩ = some (.int .i64 mc) ∧ w'.cell? ⟨b, off + ia * 5 + 4, none⟩ = some (.int .i64 md))) (by kernel_rfl) ⟨e0, e1, e2, e3, e4⟩ (fun hHeld => ?_)
            refine wpAnyH_take (i := 0) (v := ?v12x1) rfl (by kernel_rfl) (by kernel_rfl) (by kernel_rfl) (fun _ _ _ h => h) (Or.inl ⟨by rfl, ?hy12x1⟩) (by assumption) ?rest12x1
            case hy12x1 => (intro w' hSw; (try dsimp only at hSw); go_simp <;> with_reducible rfl)
            simp only [Act.put, List.setIfInBounds_toArray, List.set_cons_zero, List.set_cons_succ]
            refine wpAnyH_take (i := 3) (v := ?v12x2) rfl (by kernel_rfl) (by kernel_rfl) (by kernel_rfl) (fun _ _ _ h => h) (Or.inl ⟨by rfl, ?hy12x2⟩) (by assumption) ?rest12x2
            case hy12x2 => (intro w' hSw; (try dsimp only at hSw); go_simp <;> with_reducible rfl)
            simp only [Act.put, List.setIfInBounds_toArray, List.set_cons_zero, List.set_cons_succ]
            refine wpAnyH_take (i := 4) (v := ?v12x3) rfl (by kernel_rfl) (by kernel_rfl) (by kernel_rfl) (fun _ _ _ h => h) (Or.inl ⟨by rfl, ?hy12x3⟩) (by assumption) ?rest12x3
            case hy12x3 => (intro w' hSw; (try dsimp only at hSw); go_simp <;> with_reducible rfl)
            simp only [Act.put, List.setIfInBounds_toArray, List.set_cons_zero, List.set_cons_succ]
            refine wpAnyH_take (i := 5) (v := ?v12x4) rfl (by kernel_rfl) (by kernel_rfl) (by kernel_rfl) (fun _ _ _ h => h) (Or.inl ⟨by rfl, ?hy12x4⟩) (by assumption) ?rest12x4
            case hy12x4 => (intro w' hSw; (try dsimp only at hSw); go_simp <;> with_reducible rfl)
            simp only [Act.put, List.setIfInBounds_toArray, List.set_cons_zero, List.set_cons_succ]
            refine wpAnyH_take (i := 6) (v := ?v12x5) rfl (by kernel_rfl) (by kernel_rfl) (by kernel_rfl) (fun _ _ _ h => h) (Or.inl ⟨by rfl, ?hy12x5⟩) (by assumption) ?rest12x5
            case hy12x5 => (intro w' hSw; (try dsimp only at hSw); go_simp <;> with_reducible rfl)
            simp only [Act.put, List.setIfInBounds_toArray, List.set_cons_zero, List.set_cons_succ]
            refine wpAnyH_take (i := 7) (v := ?v12x6) rfl (by kernel_rfl) (by kernel_rfl) (by kernel_rfl) (fun _ _ _ h => h) (Or.inl ⟨by rfl, ?hy12x6⟩) (by assumption) ?rest12x6
            case hy12x6 => (intro w' hSw; (try dsimp only at hSw); go_simp <;> with_reducible rfl)
            simp only [Act.put, List.setIfInBounds_toArray, List.set_cons_zero, List.set_cons_succ]
            refine wpAnyH_take (i := 8) (v := ?v12x7) rfl (by kernel_rfl) (by kernel_rfl) (by kernel_rfl) (fun _ _ _ h => h) (Or.inl ⟨by rfl, ?hy12x7⟩) (by assumption) ?rest12x7
            case hy12x7 => (intro w' hSw; (try dsimp only at hSw); go_simp <;> with_reducible rfl)
            simp only [Act.put, List.setIfInBounds_toArray, List.set_cons_zero, List.set_cons_succ]
            refine wpAnyH_take (i := 9) (v := ?v12x8) rfl (by kernel_rfl) (by kernel_rfl) (by kernel_rfl) (fun _ _ _ h => h) (Or.inl ⟨by rfl, ?hy12x8⟩) (by assumption) ?rest12x8
            case hy12x8 => (intro w' hSw; (try dsimp only at hSw); go_simp <;> with_reducible rfl)
            simp only [Act.put, List.setIfInBounds_toArray, List.set_cons_zero, List.set_cons_succ]
            refine wpAnyH_take (i := 10) (v := ?v12x9) rfl (by kernel_rfl) (by kernel_rfl) (by kernel_rfl) (fun _ _ _ h => h) (Or.inl ⟨by rfl, ?hy12x9⟩) (by assumption) ?rest12x9
            case hy12x9 => (intro w' hSw; (try dsimp only at hSw); go_simp <;> with_reducible rfl)
            simp only [Act.put, List.setIfInBounds_toArray, List.set_cons_zero, List.set_cons_succ]
            refine wpAnyH_ready (rs := [1]) (by kernel_rfl) (by simp) ?_
            refine (AllReadyH.cons rfl (fun K hK => ?_) AllReadyH.nil)
            go_simp
            refine hK.out _ _ ?_ (fun hHeld => ?_)
            · (first | (with_reducible exact hHeld) | (with_reducible exact hk2) | (refine ⟨?_, ?_, ?_, ?_, ?_⟩ <;> simp only [World.cell?_setCell_far, ne_eq, hqb, not_false_eq_true, hk2.1, hk2.2.1, hk2.2.2.1, hk2.2.2.2.1, hk2.2.2.2.2]))
            clear hK K
            try simp only [Act.put, List.setIfInBounds_toArray, List.set_cons_zero, List.set_cons_succ]
            refine wpAnyH_ready (rs := [2]) (by kernel_rfl) (by simp) ?_
            refine (AllReadyH.cons rfl (fun K hK => ?_) AllReadyH.nil)
            go_simp
            (go_at_call 100; refine (hQr _).mono ?_; rintro e w2 ⟨rfl, hb2⟩; have HT2 := Lib.hid (HT1.out.below ((Below.refl _ _).drew.trans hb2)); obtain ⟨r0, r1, r2, r3, r4, g0, g1, g2, g3, g4⟩ := HT2.out.bx; simp only at r0 r1 r2 r3 r4; have hk2 := (HNM.out.keep (((Below.refl w1.heap.size w1).drew.trans hb2).block b (Nat.lt_trans hbl' HT1.out.siz))).parts5; have hz2 := HT2.out.siz; clear hb2)
            try go_wp2_with fail
            refine hK.out _ _ ?_ (fun hHeld => ?_)
            · (first | (with_reducible exact hHeld) | (with_reducible exact hk2) | (refine ⟨?_, ?_, ?_, ?_, ?_⟩ <;> simp only [World.cell?_setCell_far, ne_eq, hqb, not_false_eq_true, hk2.1, hk2.2.1, hk2.2.2.1, hk2.2.2.2.1, hk2.2.2.2.2]))
            clear hK K
            try simp only [Act.put, List.setIfInBounds_toArray, List.set_cons_zero, List.set_cons_succ]
            refine wpAnyH_ready (rs := [11]) (by kernel_rfl) (by simp) ?_
            refine (AllReadyH.cons rfl (fun K hK => ?_) AllReadyH.nil)
            go_simp
            refine hK.out _ _ ?_ (fun hHeld => ?_)
            · (first | (with_reducible exact hHeld) | (with_reducible exact hk2) | (refine ⟨?_, ?_, ?_, ?_, ?_⟩ <;> simp only [World.cell?_setCell_far, ne_eq, hqb, not_false_eq_true, hk2.1, hk2.2.1, hk2.2.2.1, hk2.2.2.2.1, hk2.2.2.2.2]))
            clear hK K
            try simp only [Act.put, List.setIfInBounds_toArray, List.set_cons_zero, List.set_cons_succ]
            refine wpAnyH_take (i := 12) (v := ?v12x10) rfl (by kernel_rfl) (by kernel_rfl) (by kernel_rfl) (fun _ _ _ h => h) (Or.inl ⟨by rfl, ?hy12x10⟩) (by assumption) ?rest12x10
            case hy12x10 => (intro w' hSw; (try dsimp only at hSw); go_simp <;> with_reducible rfl)
            simp only [Act.put, List.setIfInBounds_toArray, List.set_cons_zero, List.set_cons_succ]
            refine wpAnyH_take (i := 13) (v := ?v12x11) rfl (by kernel_rfl) (by kernel_rfl) (by kernel_rfl) (fun _ _ _ h => h) (Or.inl ⟨by rfl, ?hy12x11⟩) (by assumption) ?rest12x11
            case hy12x11 => (intro w' hSw; (try dsimp only at hSw); go_simp <;> with_reducible rfl)
            simp only [Act.put, List.setIfInBounds_toArray, List.set_cons_zero, List.set_cons_succ]
            refine wpAnyH_ready (rs := [14]) (by kernel_rfl) (by simp) ?_
            refine (AllReadyH.cons rfl (fun K hK => ?_) AllReadyH.nil)
            go_simp
            refine hK.out _ _ ?_ (fun hHeld => ?_)
            · (first | (with_reducible exact hHeld) | (with_reducible exact hk2) | (refine ⟨?_, ?_, ?_, ?_, ?_⟩ <;> simp only [World.cell?_setCell_far, ne_eq, hqb, not_false_eq_true, hk2.1, hk2.2.1, hk2.2.2.1, hk2.2.2.2.1, hk2.2.2.2.2]))
            clear hK K
            try simp only [Act.put, List.setIfInBounds_toArray, List.set_cons_zero, List.set_cons_succ]
            refine wpAnyH_done (by kernel_rfl) ?_ _
            refine NoPanic.normal ?_
            clear hk2 r0 r1 r2 r3 r4 g0 g1 g2 g3 g4 c0 c1 c2 c3 c4 f0 f1 f2 f3 f4 e0 e1 e2 e3 e4
            go_wp2
            go_roundw
            case rel => exact ⟨2, ia, i % 4, j % 4, hm, rfl, by first | rfl | (congr 1; omega), by first | rfl | (congr 1; omega), HED.out, HQ2.out, HX1.out, HY1.out, HQ3.out, by rw [HME.out]; exact HPUT.out _ HT2.out⟩
            case measure => simp [intOf]
    · rw [hlf] at hrs
      have hsp : isSp l[k] = false := by simpa using hrs.symm
      rw [hsp] at hSp
      have HV : Hid (l[k].tile = t) := by
        show _ = _
        rw [← HTT.out, tileN_leaf (by rw [ndAt_eq hk]; exact hlf), ndAt_eq hk]
      clear hlf hrs hsp hQr
      generalize l[k] = n at *
      obtain ⟨nt, na, nb, nc, nd⟩ := n
      unfold Nd.val at hSp
      simp only at hSp HV
      obtain ⟨c0, c1, c2, c3, c4, _, _, _, _, _⟩ := HTB.out.bx
      simp only at c0 c1 c2 c3 c4
      go_wp2_with fail
      refine (hSp _).mono ?_
      rintro e w1 ⟨rfl, hb1⟩
      have HT1 := Lib.hid (HTB.out.below hb1)
      clear hb1 c0 c1 c2 c3 c4
      obtain ⟨c0, c1, c2, c3, c4, _, _, _, _, _⟩ := HT1.out.bx
      simp only at c0 c1 c2 c3 c4
      go_wp2
      go_ret
      exact ⟨ret_int HV.out, HT1.out.bel⟩
end Go.Proofs.YtoobkajilbmdhaaDoor
