/- The program's pools: PoolSet; what is got from a right pool is a right map. -/
import Derived.Test.YtbcnfohbiagfpaaDoorPgG
import Derived.Test.YtbcnfohbiagfpaaDoorMSa
import Derived.Test.YtbcnfohbiagfpaaDoorPgB
import Derived.Test.YtbcnfohbiagfpaaDoorMSb
namespace Go.Proofs.YtbcnfohbiagfpaaDoor
open Go.RowKit
set_option linter.unusedVariables false
set_option linter.unusedSimpArgs false

theorem leaf_tile {l : List Nd} (hr : poolRight l = true) {k : Nat} (hk : k < l.length) (hf : leafN l[k] = true) : tileOk l[k].tile = true := by
  have h := right_node hr hk
  rw [nodeOk, if_pos hf, leafOk] at h
  simp only [Bool.and_eq_true] at h
  exact h.1.1.1.1
theorem tileN_ok {l : List Nd} (hr : poolRight l = true) : ∀ (d k x y : Nat) (hk : k < l.length), (hts l).getD k 0 ≤ d → tileOk (tileN l d k x y) = true := by
  intro d
  induction d with
  | zero =>
    intro k x y hk hh
    cases hf : leafN l[k]
    · obtain ⟨e, he, _⟩ := tile_down hr (x := x) (y := y) hk hf hh
      omega
    · rw [tileN_leaf (by rw [ndAt_eq hk]; exact hf), ndAt_eq hk]
      exact leaf_tile hr hk hf
  | succ d ih =>
    intro k x y hk hh
    cases hf : leafN l[k]
    · obtain ⟨e, he, hq, hq2, ht⟩ := tile_down hr (x := x) (y := y) hk hf hh
      obtain rfl : e = d := by omega
      rw [ht]
      exact ih _ _ _ (by omega) hq2
    · rw [tileN_leaf (by rw [ndAt_eq hk]; exact hf), ndAt_eq hk]
      exact leaf_tile hr hk hf
theorem getTo_ok {l : List Nd} (hr : poolRight l = true) {d root : Nat} (hk : root < l.length) (hh : (hts l).getD root 0 ≤ d) : ∀ k, ∀ t ∈ getTo l d root k, tileOk t = true
  | 0, t, h => by simp [getTo] at h
  | k + 1, t, h => by
    rw [getTo, List.mem_append] at h
    rcases h with h | h
    · exact getTo_ok hr hk hh k t h
    · simp only [List.mem_singleton] at h
      rw [h]
      exact tileN_ok hr _ _ _ _ hk hh
/-- What is got is right. -/
theorem getP_right {l : List Nd} {rt side : Int} (h : (getP l rt side).1 = 0) : gridRight side (getP l rt side).2.2 = true := by
  obtain ⟨hr, hs, h1, h2, h3⟩ := getP_ok h
  have hall : ∀ t ∈ (getP l rt side).2.2, tileOk t = true := by
    have e : getP l rt side = getG l rt side := by simp [getP, hr, hs]
    rw [e] at h ⊢
    unfold getG at h ⊢
    cases ht : thereN l.length rt
    · rw [ht, if_neg (by simp)] at h
      exact absurd h (by decide)
    · rw [ht, if_pos rfl] at h
      rw [if_pos rfl]
      by_cases hh : (hts l).getD rt.toNat 0 ≤ (dbl side.toNat : Int)
      · rw [if_pos hh]
        have hb : 0 ≤ rt ∧ rt < l.length := by simp [thereN, inIs] at ht; omega
        exact getTo_ok hr (by omega) hh _
      · rw [if_neg hh] at h
        exact absurd h (by decide)
  have hlen : ((getP l rt side).2.2.length : Int) = side * side := by
    rw [h2]
    rcases (sideOk_iff side).1 hs with rfl | rfl | rfl | rfl <;> rfl
  simp only [gridRight, Bool.and_eq_true, beq_iff_eq, List.all_eq_true]
  exact ⟨⟨hs, hlen⟩, hall⟩
theorem set_right' {side : Int} {t : List Int} {k : Nat} {n : Int} (h : gridRight side t = true) (hn : tileOk n = true) : gridRight side (t.set k n) = true := by
  simp only [gridRight, Bool.and_eq_true, List.length_set, List.all_eq_true] at h ⊢
  refine ⟨h.1, fun x hx => ?_⟩
  rcases List.mem_or_eq_of_mem_set hx with hx | rfl
  · exact h.2 x hx
  · exact hn
theorem putP_R {l : List Nd} {side : Int} {t : List Int} (hr : poolRight l = true) (hg : gridRight side t = true) : putP l side t = putR l side.toNat t := by
  simp [putP, putR, hr, hg]

theorem putR_len (l : List Nd) (sn : Nat) (t : List Int) : (putR l sn t).2.2.length ≤ 200 := by
  unfold putR
  simp only
  split
  · next h => exact h
  · simp
theorem setP_len (l : List Nd) (rt side x y tile : Int) : (setP l rt side x y tile).2.2.length ≤ 200 := by
  unfold setP
  split
  · split
    · split
      · exact putR_len _ _ _
      · simp
    · simp
  · simp

set_option maxRecDepth 100000 in
set_option maxHeartbeats 1000000 in
theorem pPoolSet_any (A : Option Addr) (c : Nat) (l : List Nd) (rt side x y tile : Int) (w : World) (h : RN w w.heap.size A l) (hl : l.length ≤ 1048576) (hc : l.length ≤ c) (hf : ∀ n ∈ l, n.Fits) (hx : In64 x) (hy : In64 y) (htab : HasTab w) :
    Calls Tryd.prog 12 #[.agg #[.slice A l.length c], .int .i64 rt, .int .i64 side, .int .i64 x, .int .i64 y, .int .i64 tile] w (POut w (setP l rt side x y tile)) := by
  have hbw : Below w.heap.size w ((w.alloc (.cells #[.slice A l.length c] 25)).alloc (.cells #[.slice none 0 0, .int .i64 0, .int .i64 0] 32)) := ((Below.refl _ _).alloc (Nat.le_refl _) _).alloc (by simp) _
  have HT0 := Lib.hid (htab.below hbw)
  have hG := fun w h ht => pPoolGet_any A c l rt side w h hl hc hf ht
  have hT := getP_len l rt side
  have HS0 := Lib.hid (SB.made w A c l h)
  have HF := Lib.hid hf
  clear h hbw htab hf
  by_cases hC : (getP l rt side).1 = 0
  · obtain ⟨hr, hs, h1, h2, h3⟩ := getP_ok hC
    have HGR := Lib.hid (getP_right hC)
    have hIn := fun w => pPlace_any side x y w hs hx hy
    have hTi := pTile_any tile
    clear hx hy
    cases hi : gridIn side x y
    · have HE : Hid (setP l rt side x y tile = (8, 0, [])) := by show _ = _; simp [setP, hC, hi]
      rw [HE.out]
      rw [hi] at hIn
      clear HE HGR
      generalize getP l rt side = RES at *
      obtain ⟨C, S, T⟩ := RES
      simp only at hG hT hC h1 h2 ⊢
      subst hC h1
      clear h2
      go_enter Tryd.func12, Tryd.ntmps12
      go_wp2_with fail
      refine (hG _ HS0.out.p.rn HT0.out).mono ?_
      rintro e w1 ⟨A1, c1, rfl, ho1, hb1⟩
      have HS1 := Lib.hid ((HS0.out.below hb1).below ((Below.refl _ _).alloc (Nat.le_refl _) (.cells #[.int .i64 S, .slice A1 T.length c1, .int .i64 0] 37)))
      clear hb1 ho1
      go_wp2_with fail
      refine (hIn _).mono ?_
      rintro e w2 ⟨rfl, rfl⟩
      obtain ⟨_, c0, c1', c2, f0, f1, f2, hz4⟩ := HS1.out
      go_wp2
      refine bodyPost_ret (v := .agg #[.slice none 0 0, .int .i64 0, .int .i64 8]) (by simp [results, Tryd.results12, go_sem, c0, c1', c2]) rfl ⟨none, 0, rfl, OwnN.nil _ _, ?_⟩
      exact ((HS1.out.p.bel.setCell (by simp) _).setCell (by simp) _).setCell (by simp) _
    · cases ht : tileOk tile
      · have HE : Hid (setP l rt side x y tile = (1, 0, [])) := by show _ = _; simp [setP, hC, hi, ht]
        rw [HE.out]
        rw [hi] at hIn
        rw [ht] at hTi
        clear HE HGR
        generalize getP l rt side = RES at *
        obtain ⟨C, S, T⟩ := RES
        simp only at hG hT hC h1 h2 ⊢
        subst hC h1
        clear h2
        go_enter Tryd.func12, Tryd.ntmps12
        go_wp2_with fail
        refine (hG _ HS0.out.p.rn HT0.out).mono ?_
        rintro e w1 ⟨A1, c1, rfl, ho1, hb1⟩
        have HS1 := Lib.hid ((HS0.out.below hb1).below ((Below.refl _ _).alloc (Nat.le_refl _) (.cells #[.int .i64 S, .slice A1 T.length c1, .int .i64 0] 37)))
        clear hb1 ho1
        go_wp2_with fail
        refine (hIn _).mono ?_
        rintro e w2 ⟨rfl, rfl⟩
        go_wp2_with fail
        refine (hTi _).mono ?_
        rintro e w3 ⟨rfl, rfl⟩
        obtain ⟨_, c0, c1', c2, f0, f1, f2, hz4⟩ := HS1.out
        go_wp2
        refine bodyPost_ret (v := .agg #[.slice none 0 0, .int .i64 0, .int .i64 1]) (by simp [results, Tryd.results12, go_sem, c0, c1', c2]) rfl ⟨none, 0, rfl, OwnN.nil _ _, ?_⟩
        exact ((HS1.out.p.bel.setCell (by simp) _).setCell (by simp) _).setCell (by simp) _
      · have HE : Hid (setP l rt side x y tile = putP l side ((getP l rt side).2.2.set (y * side + x).toNat tile)) := by show _ = _; rw [putP_R hr (set_right' HGR.out ht)]; simp [setP, hC, hi, ht]
        rw [HE.out]
        obtain ⟨j, hj, hjl, hw1, hw2⟩ := got_place hs h2 hi
        rw [hj] at hw2
        rw [hj, Int.toNat_natCast]
        have HJ := Lib.hid hj
        rw [hi] at hIn
        rw [ht] at hTi
        clear HE hi ht HGR
        generalize getP l rt side = RES at *
        obtain ⟨C, S, T⟩ := RES
        simp only at hG hT hC h1 h2 ⊢
        subst hC h1
        have HL2 := Lib.hid h2
        clear h2
        go_enter Tryd.func12, Tryd.ntmps12
        go_wp2_with fail
        refine (hG _ HS0.out.p.rn HT0.out).mono ?_
        rintro e w1 ⟨A1, c1, rfl, ho1, hb1⟩
        have HS1 := Lib.hid ((HS0.out.below hb1).below ((Below.refl _ _).alloc (Nat.le_refl _) (.cells #[.int .i64 S, .slice A1 T.length c1, .int .i64 0] 37)))
        obtain ⟨g, rfl, hg1, hg2, _, _⟩ := ho1.at_ hjl
        have hg1' : w.heap.size + 1 + 1 ≤ g := by simpa using hg1
        have k0 : (w1.alloc (.cells #[.int .i64 S, .slice (some ⟨g, 0, none⟩) T.length c1, .int .i64 0] 37)).cell? ⟨w1.heap.size, 0, none⟩ = some (.int .i64 S) := by simp [go_sem]
        have k1 : (w1.alloc (.cells #[.int .i64 S, .slice (some ⟨g, 0, none⟩) T.length c1, .int .i64 0] 37)).cell? ⟨w1.heap.size, 1, none⟩ = some (.slice (some ⟨g, 0, none⟩) T.length c1) := by simp [go_sem]
        have k2 : (w1.alloc (.cells #[.int .i64 S, .slice (some ⟨g, 0, none⟩) T.length c1, .int .i64 0] 37)).cell? ⟨w1.heap.size, 2, none⟩ = some (.int .i64 0) := by simp [go_sem]
        have ho2 := ho1.keep ((Below.refl _ _).alloc (Nat.le_refl _) (.cells #[.int .i64 S, .slice (some ⟨g, 0, none⟩) T.length c1, .int .i64 0] 37))
        have HO3 := Lib.hid (ho2.store (j := j) tile).1
        obtain ⟨g', e', _, _, hcj, hfj⟩ := ho2.at_ hjl
        cases e'
        have hz2 : w1.heap.size < (w1.alloc (.cells #[.int .i64 S, .slice (some ⟨g, 0, none⟩) T.length c1, .int .i64 0] 37)).heap.size := by simp
        clear hb1 ho1 ho2 hg1
        go_wp2_with fail
        generalize w1.alloc (.cells #[.int .i64 S, .slice (some ⟨g, 0, none⟩) T.length c1, .int .i64 0] 37) = w2 at *
        refine (hIn _).mono ?_
        rintro e w3 ⟨rfl, rfl⟩
        go_wp2_with fail
        refine (hTi _).mono ?_
        rintro e w3 ⟨rfl, rfl⟩
        have hb3 : Below (w.heap.size + 1 + 1) w2 (w2.setCell ⟨g, j, none⟩ (.int .i64 tile)) := (Below.refl _ _).setCell hg1' _
        have HS3 := Lib.hid (HS1.out.step hb3)
        clear hb3
        have p0 := HS1.out.p.c0
        have n1 : g ≠ w.heap.size := by omega
        have n2 : w.heap.size ≠ g := by omega
        have n3 : g ≠ w1.heap.size := by omega
        have n4 : w1.heap.size ≠ g := by omega
        go_wp2_with fail
        have h200 := pool_len hr
        rcases HS3.out.p.rn with hnil | ⟨b, off, rfl, hbl, hn⟩
        · exact absurd hnil h3
        have hPut := pPoolPut_any b off c c1 l S (some ⟨g, 0, none⟩) (T.set j tile) _ ⟨hbl, hn⟩ (by omega) HO3.out.ri (by rw [List.length_set]; omega) hc HF.out
        rw [List.length_set] at hPut
        refine hPut.mono ?_
        rintro e w4 ⟨A4, c4, rfl, ho4, hb4⟩
        have HS4 := Lib.hid (HS3.out.below hb4)
        have HO4 := Lib.hid (OwnN.lower (base' := w.heap.size + 1 + 1) HS3.out.siz ho4)
        obtain ⟨_, c0, c1', c2, f0, f1, f2, hz4⟩ := HS4.out
        clear hb4 ho4 hPut n1 n2 n3 n4 p0 k0 k1 k2 hcj hfj
        generalize putP l S (T.set j tile) = R at *
        obtain ⟨rc, rr, rl⟩ := R
        simp only at HO4
        go_wp2_with fail
        refine bodyPost_ret (v := .agg #[.slice A4 rl.length c4, .int .i64 rr, .int .i64 rc]) (by simp [results, Tryd.results12, go_sem, c0, c1', c2]) rfl ⟨A4, c4, rfl, ?_, ?_⟩
        · exact OwnN.lower (base := w.heap.size + 1 + 1) (by omega) (OwnN.set_below (by show w.heap.size + 1 < _; omega) _ (OwnN.set_below (by show w.heap.size + 1 < _; omega) _ (OwnN.set_below (by show w.heap.size + 1 < _; omega) _ HO4.out)))
        · exact ((HS4.out.p.bel.setCell (by simp) _).setCell (by simp) _).setCell (by simp) _
  · have HE : Hid (setP l rt side x y tile = ((getP l rt side).1, 0, [])) := by show _ = _; simp [setP, hC]
    rw [HE.out]
    clear HE hx hy
    generalize getP l rt side = RES at *
    obtain ⟨C, S, T⟩ := RES
    simp only at hG hT hC ⊢
    have hq : (C != 0) = true := by simpa using hC
    clear hC
    go_enter Tryd.func12, Tryd.ntmps12
    go_wp2_with fail
    refine (hG _ HS0.out.p.rn HT0.out).mono ?_
    rintro e w1 ⟨A1, c1, rfl, ho1, hb1⟩
    have HS1 := Lib.hid ((HS0.out.below hb1).below ((Below.refl _ _).alloc (Nat.le_refl _) (.cells #[.int .i64 S, .slice A1 T.length c1, .int .i64 C] 37)))
    obtain ⟨_, c0, c1', c2, f0, f1, f2, hz4⟩ := HS1.out
    clear hb1 ho1
    go_wp2
    refine bodyPost_ret (v := .agg #[.slice none 0 0, .int .i64 0, .int .i64 C]) (by simp [results, Tryd.results12, go_sem, c0, c1', c2]) rfl ⟨none, 0, rfl, OwnN.nil _ _, ?_⟩
    exact ((HS1.out.p.bel.setCell (by simp) _).setCell (by simp) _).setCell (by simp) _
end Go.Proofs.YtbcnfohbiagfpaaDoor
