/- Several texts in one: PgSet, GrM, NfL, NfP, NfM. -/
import Derived.Test.YtoobkajilbmdhaaDoorPgG
import Derived.Test.YtoobkajilbmdhaaDoorMSa
import Derived.Test.YtoobkajilbmdhaaDoorPgB
import Derived.Test.YtoobkajilbmdhaaDoorMSb
import Derived.Test.YtoobkajilbmdhaaDoorMSc
import Derived.Test.YtoobkajilbmdhaaDoorMSd
namespace Go.Proofs.YtoobkajilbmdhaaDoor
open Go.RowKit
set_option linter.unusedVariables false
set_option linter.unusedSimpArgs false

theorem leaf_tile {l : List Nd} (hr : poolRight l = true) {k : Nat} (hk : k < l.length) (hf : leafN l[k] = true) : tileOk l[k].tile = true := by
  have h := right_node hr hk
  rw [nodeOk, if_pos hf, leafOk] at h
  simp only [Bool.and_eq_true] at h
  exact h.1.1.1.1
theorem tileN_ok {l : List Nd} (hr : poolRight l = true) : ∀ (d k x y : Nat) (hk : k < l.length), (hts l).getD k 0 ≤ d → tileOk (tileN l d k x y) = true := by
  intro d
  induction d with
  | zero =>
    intro k x y hk hh
    cases hf : leafN l[k]
    · obtain ⟨e, he, _⟩ := tile_down hr (x := x) (y := y) hk hf hh
      omega
    · rw [tileN_leaf (by rw [ndAt_eq hk]; exact hf), ndAt_eq hk]
      exact leaf_tile hr hk hf
  | succ d ih =>
    intro k x y hk hh
    cases hf : leafN l[k]
    · obtain ⟨e, he, hq, hq2, ht⟩ := tile_down hr (x := x) (y := y) hk hf hh
      obtain rfl : e = d := by omega
      rw [ht]
      exact ih _ _ _ (by omega) hq2
    · rw [tileN_leaf (by rw [ndAt_eq hk]; exact hf), ndAt_eq hk]
      exact leaf_tile hr hk hf
theorem getTo_ok {l : List Nd} (hr : poolRight l = true) {d root : Nat} (hk : root < l.length) (hh : (hts l).getD root 0 ≤ d) : ∀ k, ∀ t ∈ getTo l d root k, tileOk t = true
  | 0, t, h => by simp [getTo] at h
  | k + 1, t, h => by
    rw [getTo, List.mem_append] at h
    rcases h with h | h
    · exact getTo_ok hr hk hh k t h
    · simp only [List.mem_singleton] at h
      rw [h]
      exact tileN_ok hr _ _ _ _ hk hh
/-- What is got is right. -/
theorem getP_right {l : List Nd} {rt side : Int} (h : (getP l rt side).1 = 0) : gridRight side (getP l rt side).2.2 = true := by
  obtain ⟨hr, hs, h1, h2, h3⟩ := getP_ok h
  have hall : ∀ t ∈ (getP l rt side).2.2, tileOk t = true := by
    have e : getP l rt side = getG l rt side := by simp [getP, hr, hs]
    rw [e] at h ⊢
    unfold getG at h ⊢
    cases ht : thereN l.length rt
    · rw [ht, if_neg (by simp)] at h
      exact absurd h (by decide)
    · rw [ht, if_pos rfl] at h
      rw [if_pos rfl]
      by_cases hh : (hts l).getD rt.toNat 0 ≤ (dbl side.toNat : Int)
      · rw [if_pos hh]
        have hb : 0 ≤ rt ∧ rt < l.length := by simp [thereN, inIs] at ht; omega
        exact getTo_ok hr (by omega) hh _
      · rw [if_neg hh] at h
        exact absurd h (by decide)
  have hlen : ((getP l rt side).2.2.length : Int) = side * side := by
    rw [h2]
    rcases (sideOk_iff side).1 hs with rfl | rfl | rfl | rfl <;> rfl
  simp only [gridRight, Bool.and_eq_true, beq_iff_eq, List.all_eq_true]
  exact ⟨⟨hs, hlen⟩, hall⟩
theorem set_right' {side : Int} {t : List Int} {k : Nat} {n : Int} (h : gridRight side t = true) (hn : tileOk n = true) : gridRight side (t.set k n) = true := by
  simp only [gridRight, Bool.and_eq_true, List.length_set, List.all_eq_true] at h ⊢
  refine ⟨h.1, fun x hx => ?_⟩
  rcases List.mem_or_eq_of_mem_set hx with hx | rfl
  · exact h.2 x hx
  · exact hn
theorem putP_R {l : List Nd} {side : Int} {t : List Int} (hr : poolRight l = true) (hg : gridRight side t = true) : putP l side t = putR l side.toNat t := by
  simp [putP, putR, hr, hg]

theorem putR_len (l : List Nd) (sn : Nat) (t : List Int) : (putR l sn t).2.2.length ≤ 200 := by
  unfold putR
  simp only
  split
  · next h => exact h
  · simp
theorem setP_len (l : List Nd) (rt side x y tile : Int) : (setP l rt side x y tile).2.2.length ≤ 200 := by
  unfold setP
  split
  · split
    · split
      · exact putR_len _ _ _
      · simp
    · simp
  · simp

set_option maxRecDepth 100000 in
set_option maxHeartbeats 1000000 in
theorem pPoolSet_any (A : Option Addr) (c : Nat) (l : List Nd) (rt side x y tile : Int) (w : World) (h : RN w w.heap.size A l) (hl : l.length ≤ 1048576) (hc : l.length ≤ c) (hf : ∀ n ∈ l, n.Fits) (hx : In64 x) (hy : In64 y) (htab : HasTab w) :
    Calls Tryd.prog 11 #[.agg #[.slice A l.length c], .int .i64 rt, .int .i64 side, .int .i64 x, .int .i64 y, .int .i64 tile] w (POut w (setP l rt side x y tile)) := by
  have hbw : Below w.heap.size w ((w.alloc (.cells #[.slice A l.length c] 25)).alloc (.cells #[.slice none 0 0, .int .i64 0, .int .i64 0] 32)) := ((Below.refl _ _).alloc (Nat.le_refl _) _).alloc (by simp) _
  have HT0 := Lib.hid (htab.below hbw)
  have hG := fun w h ht => pPoolGet_any A c l rt side w h hl hc hf ht
  have hT := getP_len l rt side
  have HS0 := Lib.hid (SB.made w A c l h)
  have HF := Lib.hid hf
  clear h hbw htab hf
  by_cases hC : (getP l rt side).1 = 0
  · obtain ⟨hr, hs, h1, h2, h3⟩ := getP_ok hC
    have HGR := Lib.hid (getP_right hC)
    have hIn := fun w => pPlace_any side x y w hs hx hy
    have hTi := pTile_any tile
    clear hx hy
    cases hi : gridIn side x y
    · have HE : Hid (setP l rt side x y tile = (8, 0, [])) := by show _ = _; simp [setP, hC, hi]
      rw [HE.out]
      rw [hi] at hIn
      clear HE HGR
      generalize getP l rt side = RES at *
      obtain ⟨C, S, T⟩ := RES
      simp only at hG hT hC h1 h2 ⊢
      subst hC h1
      clear h2
      go_enter Tryd.func11, Tryd.ntmps11
      go_wp2_with fail
      refine (hG _ HS0.out.p.rn HT0.out).mono ?_
      rintro e w1 ⟨A1, c1, rfl, ho1, hb1⟩
      have HS1 := Lib.hid ((HS0.out.below hb1).below ((Below.refl _ _).alloc (Nat.le_refl _) (.cells #[.int .i64 S, .slice A1 T.length c1, .int .i64 0] 37)))
      clear hb1 ho1
      go_wp2_with fail
      refine (hIn _).mono ?_
      rintro e w2 ⟨rfl, rfl⟩
      obtain ⟨_, c0, c1', c2, f0, f1, f2, hz4⟩ := HS1.out
      go_wp2
      refine bodyPost_ret (v := .agg #[.slice none 0 0, .int .i64 0, .int .i64 8]) (by simp [results, Tryd.results11, go_sem, c0, c1', c2]) rfl ⟨none, 0, rfl, OwnN.nil _ _, ?_⟩
      exact ((HS1.out.p.bel.setCell (by simp) _).setCell (by simp) _).setCell (by simp) _
    · cases ht : tileOk tile
      · have HE : Hid (setP l rt side x y tile = (1, 0, [])) := by show _ = _; simp [setP, hC, hi, ht]
        rw [HE.out]
        rw [hi] at hIn
        rw [ht] at hTi
        clear HE HGR
        generalize getP l rt side = RES at *
        obtain ⟨C, S, T⟩ := RES
        simp only at hG hT hC h1 h2 ⊢
        subst hC h1
        clear h2
        go_enter Tryd.func11, Tryd.ntmps11
        go_wp2_with fail
        refine (hG _ HS0.out.p.rn HT0.out).mono ?_
        rintro e w1 ⟨A1, c1, rfl, ho1, hb1⟩
        have HS1 := Lib.hid ((HS0.out.below hb1).below ((Below.refl _ _).alloc (Nat.le_refl _) (.cells #[.int .i64 S, .slice A1 T.length c1, .int .i64 0] 37)))
        clear hb1 ho1
        go_wp2_with fail
        refine (hIn _).mono ?_
        rintro e w2 ⟨rfl, rfl⟩
        go_wp2_with fail
        refine (hTi _).mono ?_
        rintro e w3 ⟨rfl, rfl⟩
        obtain ⟨_, c0, c1', c2, f0, f1, f2, hz4⟩ := HS1.out
        go_wp2
        refine bodyPost_ret (v := .agg #[.slice none 0 0, .int .i64 0, .int .i64 1]) (by simp [results, Tryd.results11, go_sem, c0, c1', c2]) rfl ⟨none, 0, rfl, OwnN.nil _ _, ?_⟩
        exact ((HS1.out.p.bel.setCell (by simp) _).setCell (by simp) _).setCell (by simp) _
      · have HE : Hid (setP l rt side x y tile = putP l side ((getP l rt side).2.2.set (y * side + x).toNat tile)) := by show _ = _; rw [putP_R hr (set_right' HGR.out ht)]; simp [setP, hC, hi, ht]
        rw [HE.out]
        obtain ⟨j, hj, hjl, hw1, hw2⟩ := got_place hs h2 hi
        rw [hj] at hw2
        rw [hj, Int.toNat_natCast]
        have HJ := Lib.hid hj
        rw [hi] at hIn
        rw [ht] at hTi
        clear HE hi ht HGR
        generalize getP l rt side = RES at *
        obtain ⟨C, S, T⟩ := RES
        simp only at hG hT hC h1 h2 ⊢
        subst hC h1
        have HL2 := Lib.hid h2
        clear h2
        go_enter Tryd.func11, Tryd.ntmps11
        go_wp2_with fail
        refine (hG _ HS0.out.p.rn HT0.out).mono ?_
        rintro e w1 ⟨A1, c1, rfl, ho1, hb1⟩
        have HS1 := Lib.hid ((HS0.out.below hb1).below ((Below.refl _ _).alloc (Nat.le_refl _) (.cells #[.int .i64 S, .slice A1 T.length c1, .int .i64 0] 37)))
        obtain ⟨g, rfl, hg1, hg2, _, _⟩ := ho1.at_ hjl
        have hg1' : w.heap.size + 1 + 1 ≤ g := by simpa using hg1
        have k0 : (w1.alloc (.cells #[.int .i64 S, .slice (some ⟨g, 0, none⟩) T.length c1, .int .i64 0] 37)).cell? ⟨w1.heap.size, 0, none⟩ = some (.int .i64 S) := by simp [go_sem]
        have k1 : (w1.alloc (.cells #[.int .i64 S, .slice (some ⟨g, 0, none⟩) T.length c1, .int .i64 0] 37)).cell? ⟨w1.heap.size, 1, none⟩ = some (.slice (some ⟨g, 0, none⟩) T.length c1) := by simp [go_sem]
        have k2 : (w1.alloc (.cells #[.int .i64 S, .slice (some ⟨g, 0, none⟩) T.length c1, .int .i64 0] 37)).cell? ⟨w1.heap.size, 2, none⟩ = some (.int .i64 0) := by simp [go_sem]
        have ho2 := ho1.keep ((Below.refl _ _).alloc (Nat.le_refl _) (.cells #[.int .i64 S, .slice (some ⟨g, 0, none⟩) T.length c1, .int .i64 0] 37))
        have HO3 := Lib.hid (ho2.store (j := j) tile).1
        obtain ⟨g', e', _, _, hcj, hfj⟩ := ho2.at_ hjl
        cases e'
        have hz2 : w1.heap.size < (w1.alloc (.cells #[.int .i64 S, .slice (some ⟨g, 0, none⟩) T.length c1, .int .i64 0] 37)).heap.size := by simp
        clear hb1 ho1 ho2 hg1
        go_wp2_with fail
        generalize w1.alloc (.cells #[.int .i64 S, .slice (some ⟨g, 0, none⟩) T.length c1, .int .i64 0] 37) = w2 at *
        refine (hIn _).mono ?_
        rintro e w3 ⟨rfl, rfl⟩
        go_wp2_with fail
        refine (hTi _).mono ?_
        rintro e w3 ⟨rfl, rfl⟩
        have hb3 : Below (w.heap.size + 1 + 1) w2 (w2.setCell ⟨g, j, none⟩ (.int .i64 tile)) := (Below.refl _ _).setCell hg1' _
        have HS3 := Lib.hid (HS1.out.step hb3)
        clear hb3
        have p0 := HS1.out.p.c0
        have n1 : g ≠ w.heap.size := by omega
        have n2 : w.heap.size ≠ g := by omega
        have n3 : g ≠ w1.heap.size := by omega
        have n4 : w1.heap.size ≠ g := by omega
        go_wp2_with fail
        have h200 := pool_len hr
        rcases HS3.out.p.rn with hnil | ⟨b, off, rfl, hbl, hn⟩
        · exact absurd hnil h3
        have hPut := pPoolPut_any b off c c1 l S (some ⟨g, 0, none⟩) (T.set j tile) _ ⟨hbl, hn⟩ (by omega) HO3.out.ri (by rw [List.length_set]; omega) hc HF.out
        rw [List.length_set] at hPut
        refine hPut.mono ?_
        rintro e w4 ⟨A4, c4, rfl, ho4, hb4⟩
        have HS4 := Lib.hid (HS3.out.below hb4)
        have HO4 := Lib.hid (OwnN.lower (base' := w.heap.size + 1 + 1) HS3.out.siz ho4)
        obtain ⟨_, c0, c1', c2, f0, f1, f2, hz4⟩ := HS4.out
        clear hb4 ho4 hPut n1 n2 n3 n4 p0 k0 k1 k2 hcj hfj
        generalize putP l S (T.set j tile) = R at *
        obtain ⟨rc, rr, rl⟩ := R
        simp only at HO4
        go_wp2_with fail
        refine bodyPost_ret (v := .agg #[.slice A4 rl.length c4, .int .i64 rr, .int .i64 rc]) (by simp [results, Tryd.results11, go_sem, c0, c1', c2]) rfl ⟨A4, c4, rfl, ?_, ?_⟩
        · exact OwnN.lower (base := w.heap.size + 1 + 1) (by omega) (OwnN.set_below (by show w.heap.size + 1 < _; omega) _ (OwnN.set_below (by show w.heap.size + 1 < _; omega) _ (OwnN.set_below (by show w.heap.size + 1 < _; omega) _ HO4.out)))
        · exact ((HS4.out.p.bel.setCell (by simp) _).setCell (by simp) _).setCell (by simp) _
  · have HE : Hid (setP l rt side x y tile = ((getP l rt side).1, 0, [])) := by show _ = _; simp [setP, hC]
    rw [HE.out]
    clear HE hx hy
    generalize getP l rt side = RES at *
    obtain ⟨C, S, T⟩ := RES
    simp only at hG hT hC ⊢
    have hq : (C != 0) = true := by simpa using hC
    clear hC
    go_enter Tryd.func11, Tryd.ntmps11
    go_wp2_with fail
    refine (hG _ HS0.out.p.rn HT0.out).mono ?_
    rintro e w1 ⟨A1, c1, rfl, ho1, hb1⟩
    have HS1 := Lib.hid ((HS0.out.below hb1).below ((Below.refl _ _).alloc (Nat.le_refl _) (.cells #[.int .i64 S, .slice A1 T.length c1, .int .i64 C] 37)))
    obtain ⟨_, c0, c1', c2, f0, f1, f2, hz4⟩ := HS1.out
    clear hb1 ho1
    go_wp2
    refine bodyPost_ret (v := .agg #[.slice none 0 0, .int .i64 0, .int .i64 C]) (by simp [results, Tryd.results11, go_sem, c0, c1', c2]) rfl ⟨none, 0, rfl, OwnN.nil _ _, ?_⟩
    exact ((HS1.out.p.bel.setCell (by simp) _).setCell (by simp) _).setCell (by simp) _
end Go.Proofs.YtoobkajilbmdhaaDoor

namespace Go.Proofs.YtoobkajilbmdhaaDoor
open Go.RowKit

theorem byteAt_nums (t : List Int) (j : Nat) (h : j < t.length) (h0 : 0 ≤ t[j] ∧ t[j] ≤ 255) : byteAt (strOfNums t) j = t[j] := by
  unfold byteAt
  have e : (strOfNums t).data.getD j 0 = UInt8.ofNat (t[j]).toNat := by
    simp [strOfNums, Array.getD, h]
  rw [e, UInt8.toNat_ofNat']
  omega
/-- What the text's bytes read as. -/
def tilesOf (t : List Int) : List Int := (t.filter (fun b => !(b == 10))).map (· - 48)
def rowsOf (t : List Int) : Nat := (t.filter (fun b => b == 10)).length
theorem tilesOf_snoc (t : List Int) (b : Int) : tilesOf (t ++ [b]) = if b = 10 then tilesOf t else tilesOf t ++ [b - 48] := by
  by_cases e : b = 10 <;> simp [tilesOf, List.filter_append, e]
theorem rowsOf_snoc (t : List Int) (b : Int) : rowsOf (t ++ [b]) = if b = 10 then rowsOf t + 1 else rowsOf t := by
  by_cases e : b = 10 <;> simp [rowsOf, List.filter_append, e]
theorem rd_take (t : List Int) (hb : ∀ b ∈ t, 0 ≤ b ∧ b ≤ 255) (k : Nat) (hk : k ≤ t.length) : rdTiles (strOfNums t) k = tilesOf (t.take k) ∧ rdSide (strOfNums t) k = rowsOf (t.take k) := by
  induction k with
  | zero => simp [rdTiles, rdSide, tilesOf, rowsOf]
  | succ k ih =>
    obtain ⟨h1, h2⟩ := ih (by omega)
    have hx := byteAt_nums t k (by omega) (hb _ (List.getElem_mem _))
    rw [rdTiles, rdSide, hx, h1, h2, List.take_succ_eq_append_getElem (by omega), tilesOf_snoc, rowsOf_snoc]
    exact ⟨rfl, rfl⟩
theorem rd_all (t : List Int) (hb : ∀ b ∈ t, 0 ≤ b ∧ b ≤ 255) : rdTiles (strOfNums t) (strOfNums t).size = tilesOf t ∧ rdSide (strOfNums t) (strOfNums t).size = rowsOf t := by
  have := rd_take t hb t.length (Nat.le_refl _)
  rwa [List.take_length, ← strOfNums_size t] at this
theorem text_reads (sn : Nat) (l : List Int) (hs : 1 ≤ sn) (ht : ∀ j (hj : j < l.length), 0 ≤ l[j] ∧ l[j] ≤ 9) (k : Nat) (hk : k ≤ l.length) :
    tilesOf (textTo sn l k) = l.take k ∧ rowsOf (textTo sn l k) = k / sn ∧ ∀ b ∈ textTo sn l k, 0 ≤ b ∧ b ≤ 255 := by
  induction k with
  | zero => simp [textTo, tilesOf, rowsOf]
  | succ k ih =>
    obtain ⟨h1, h2, h3⟩ := ih (by omega)
    have hkl : k < l.length := by omega
    have hx := ht k hkl
    have e : l.getD k 0 = l[k] := by simp [List.getD, hkl]
    rw [textTo, e]
    have hne : ¬ (48 + l[k] = 10) := by omega
    have hm : ((k : Nat) : Int) % (sn : Int) = ((k % sn : Nat) : Int) := by simp
    have hdiv : (k + 1) / sn = k / sn + (if k % sn = sn - 1 then 1 else 0) := by
      have h4 := Nat.div_add_mod k sn
      have h5 := Nat.mod_lt k (show 0 < sn by omega)
      split
      · next h6 =>
        have : k + 1 = sn * (k / sn + 1) := by rw [Nat.mul_add, Nat.mul_one]; omega
        rw [this, Nat.mul_div_cancel_left _ (by omega)]
      · next h6 =>
        rw [Nat.add_zero]
        have : k + 1 = sn * (k / sn) + (k % sn + 1) := by omega
        rw [this, Nat.mul_add_div (m := sn) hs, Nat.div_eq_of_lt (show k % sn + 1 < sn by omega), Nat.add_zero]
    refine ⟨?_, ?_, ?_⟩
    · rw [List.take_succ_eq_append_getElem hkl, ← h1]
      split
      · rw [List.append_cons, tilesOf_snoc, if_pos rfl, tilesOf_snoc, if_neg hne]
        congr 2
        omega
      · rw [tilesOf_snoc, if_neg hne]
        congr 2
        omega
    · rw [hdiv, ← h2, hm]
      by_cases h6 : k % sn = sn - 1
      · rw [if_pos h6, if_pos (by omega), List.append_cons, rowsOf_snoc, if_pos rfl, rowsOf_snoc, if_neg hne]
      · rw [if_neg h6, if_neg (by omega), rowsOf_snoc, if_neg hne, Nat.add_zero]
    · intro b hb
      rcases List.mem_append.1 hb with hb | hb
      · exact h3 b hb
      · rcases List.mem_cons.1 hb with rfl | hb
        · omega
        · split at hb
          · simp at hb; omega
          · cases hb

/-- A right map comes back from its text. -/
theorem read_back {side : Int} {l : List Int} (h : gridRight side l = true) : readSide (strOfNums (textOf side l)) = side ∧ readTiles (strOfNums (textOf side l)) = l ∧ readCode (strOfNums (textOf side l)) = 0 := by
  obtain ⟨sn, rfl, h1, h8, hl⟩ := right_nat h
  obtain ⟨_, _, ht⟩ := right_parts h
  obtain ⟨r1, r2, r3⟩ := text_reads sn l h1 ht l.length (Nat.le_refl _)
  have e : textOf sn l = textTo sn l l.length := by unfold textOf; rw [if_pos h]
  have hq : l.length / sn = sn := by rw [hl]; exact Nat.mul_div_cancel_left _ (by omega)
  rw [List.take_length] at r1
  rw [hq] at r2
  obtain ⟨k1, k2⟩ := rd_all _ r3
  rw [r1] at k1
  rw [r2] at k2
  have hsz : (strOfNums (textTo sn l l.length)).size ≤ 8000 := by
    rw [strOfNums_size]
    have := textTo_length sn l l.length
    have := right_len h
    omega
  have hok : readOk (strOfNums (textTo sn l l.length)) = true := by
    rw [readOk_eq, readText, k1, k2, h, e]
    simp
  rw [e]
  refine ⟨?_, ?_, ?_⟩
  · unfold readSide; rw [if_pos ⟨hsz, hok⟩, k2]
  · unfold readTiles; rw [if_pos ⟨hsz, hok⟩, k1]
  · unfold readCode; rw [if_pos hsz, if_pos hok]

/-- Of a text that is read the map has that text. -/
theorem read_text {u : ByteArray} (h : readCode u = 0) : gridRight (readSide u) (readTiles u) = true ∧ ((strOfNums (textOf (readSide u) (readTiles u))).toList == u.toList) = true := by
  unfold readCode at h
  split at h
  · next hs =>
    split at h
    · next hok =>
      have e1 : readSide u = (rdSide u u.size : Int) := by unfold readSide; rw [if_pos ⟨hs, hok⟩]
      have e2 : readTiles u = rdTiles u u.size := by unfold readTiles; rw [if_pos ⟨hs, hok⟩]
      have h2 := hok
      rw [readOk_eq, Bool.and_eq_true] at h2
      rw [e1, e2]
      exact ⟨h2.1, h2.2⟩
    · cases h
  · cases h
theorem new_ok {side tile : Int} (h : newCode side tile = 0) : gridRight (newSide side tile) (newTiles side tile) = true := by
  unfold newCode at h
  split at h
  · next hc =>
    unfold newSide newTiles
    rw [if_pos hc, if_pos hc]
    rw [Bool.and_eq_true] at hc
    have ht := hc.2
    simp only [gridRight, Bool.and_eq_true, beq_iff_eq, List.all_eq_true]
    refine ⟨⟨hc.1, ?_⟩, fun x hx => by rw [List.eq_of_mem_replicate hx]; exact ht⟩
    rw [List.length_replicate]
    rcases (sideOk_iff side).1 hc.1 with rfl | rfl | rfl | rfl <;> decide
  · cases h
theorem fill_ok {side x y w h t : Int} {l : List Int} (hc : fillCode side l x y w h t = 0) : fillOk side l t = true ∧ fillIn side x y w h = true := by
  unfold fillCode at hc
  split at hc
  · next h1 =>
    split at hc
    · next h2 => exact ⟨h1, h2⟩
    · cases hc
  · cases hc
theorem fill_is {side x y w h t : Int} {l : List Int} (hc : fillCode side l x y w h t = 0) : fillSide side l x y w h t = side ∧ fillTiles side l x y w h t = fillL side l x y w h t ∧ gridRight side l = true ∧ gridRight side (fillL side l x y w h t) = true := by
  obtain ⟨h1, h2⟩ := fill_ok hc
  have h3 := h1
  rw [fillOk, Bool.and_eq_true] at h3
  refine ⟨?_, ?_, h3.1, fill_right _ h3.1 h3.2⟩
  · unfold fillSide; rw [h1, h2]; rfl
  · unfold fillTiles; rw [h1, h2]; rfl
/-- What is filled is filled, and nothing else is turned. -/
theorem fill_tile {side x y w h t : Int} {l : List Int} (hr : gridRight side l = true) (hr2 : gridRight side (fillL side l x y w h t) = true) {i j : Int} (hi : 0 ≤ i ∧ i < side) (hj : 0 ≤ j ∧ j < side) :
    tileAt side (fillL side l x y w h t) i j = if x ≤ i ∧ i < x + w ∧ y ≤ j ∧ j < y + h then t else tileAt side l i j := by
  have hin : gridIn side i j = true := gridIn_iff.2 ⟨hi.1, hi.2, hj.1, hj.2⟩
  obtain ⟨q, hq, hql, _, _⟩ := place_bound hr hin
  unfold tileAt
  rw [hr, hr2, hin, Bool.and_self, if_pos rfl, if_pos rfl, hq]
  have hlen : q < (fillL side l x y w h t).length := by rw [fillL, paint_length]; exact hql
  have e1 : (fillL side l x y w h t).getD ((q : Nat) : Int).toNat 0 = (fillL side l x y w h t)[q] := by simp [List.getD, hlen]
  have e2 : l.getD ((q : Nat) : Int).toNat 0 = l[q] := by simp [List.getD, hql]
  rw [e1, e2]
  have e3 : (fillL side l x y w h t)[q] = if inRect side x y w h q then t else l[q] := paint_get _ _ _ _ _
  rw [e3]
  have hs : 0 < side := by omega
  have hm : (q : Int) % side = i := by
    rw [← hq, Int.add_comm, Int.add_mul_emod_self_right, Int.emod_eq_of_lt hi.1 hi.2]
  have hd : (q : Int) / side = j := by
    rw [← hq, Int.add_comm, Int.add_mul_ediv_right _ _ (by omega), Int.ediv_eq_zero_of_lt hi.1 hi.2, Int.zero_add]
  unfold inRect
  rw [hm, hd]
  by_cases hc : x ≤ i ∧ i < x + w ∧ y ≤ j ∧ j < y + h
  · rw [if_pos hc, if_pos (by simpa using hc)]
  · rw [if_neg hc, if_neg (by simpa using hc)]
/-- A text that is not empty is a right map's. -/
theorem text_right {side : Int} {l : List Int} (h : (strOfNums (textOf side l)).toList.isEmpty = false) : gridRight side l = true := by
  cases hr : gridRight side l
  · exfalso
    unfold textOf at h
    rw [hr, Lib.toList_data] at h
    simp [strOfNums] at h
  · rfl
end Go.Proofs.YtoobkajilbmdhaaDoor

namespace Go.Proofs.YtoobkajilbmdhaaDoor
open Go.RowKit
set_option linter.unusedVariables false

/-- What NodeFill answers. -/
def fillP (l : List Nd) (rt side x y wd ht tile : Int) : Int × Int × List Nd :=
  if (getP l rt side).1 = 0 then
    (if fillCode side (getP l rt side).2.2 x y wd ht tile = 0 then putR l side.toNat (fillTiles side (getP l rt side).2.2 x y wd ht tile) else (fillCode side (getP l rt side).2.2 x y wd ht tile, 0, []))
  else ((getP l rt side).1, 0, [])
theorem fillP_len (l : List Nd) (rt side x y wd ht tile : Int) : (fillP l rt side x y wd ht tile).2.2.length ≤ 200 := by
  unfold fillP
  split
  · split
    · exact putR_len _ _ _
    · simp
  · simp
theorem right_sq {side : Int} {t : List Int} (h : gridRight side t = true) : t.length = side.toNat * side.toNat := by
  obtain ⟨hs, hl, _⟩ := right_parts h
  rcases (sideOk_iff side).1 hs with rfl | rfl | rfl | rfl <;> simp at hl ⊢ <;> omega
theorem fill_right2 {side x y w h t : Int} {l : List Int} (hc : fillCode side l x y w h t = 0) : fillSide side l x y w h t = side ∧ gridRight side (fillTiles side l x y w h t) = true := by
  obtain ⟨h1, h2, _, h4⟩ := fill_is hc
  exact ⟨h1, by rw [h2]; exact h4⟩
end Go.Proofs.YtoobkajilbmdhaaDoor

namespace Go.Proofs.YtoobkajilbmdhaaDoor
open Go.RowKit
set_option linter.unusedVariables false
set_option linter.unusedSimpArgs false

set_option maxRecDepth 100000 in
set_option maxHeartbeats 1000000 in
theorem pNodeFill_any (A : Option Addr) (c : Nat) (l : List Nd) (rt side x y wd ht tile : Int) (w : World) (h : RN w w.heap.size A l) (hl : l.length ≤ 1048576) (hc : l.length ≤ c) (hf : ∀ n ∈ l, n.Fits) (hx : In64 x) (hy : In64 y) (htab : HasTab w) :
    Calls Tryd.prog 32 #[.agg #[.slice A l.length c], .int .i64 rt, .int .i64 side, .int .i64 x, .int .i64 y, .int .i64 wd, .int .i64 ht, .int .i64 tile] w (POut w (fillP l rt side x y wd ht tile)) := by
  have hbw : Below w.heap.size w ((w.alloc (.cells #[.slice A l.length c] 25)).alloc (.cells #[.slice none 0 0, .int .i64 0, .int .i64 0] 32)) := ((Below.refl _ _).alloc (Nat.le_refl _) _).alloc (by simp) _
  have HT0 := Lib.hid (htab.below hbw)
  have hG := fun w h t => pPoolGet_any A c l rt side w h hl hc hf t
  have HF := Lib.hid hf
  have hT := getP_len l rt side
  have HS0 := Lib.hid (SB.made w A c l h)
  have hFl := fun A c t w h hl => pFill_any side x y wd ht tile A c t w h hl hx hy
  clear h hx hy hbw htab hf
  by_cases hC : (getP l rt side).1 = 0
  · obtain ⟨hr, hs, h1, h2, h3⟩ := getP_ok hC
    by_cases hF : fillCode side (getP l rt side).2.2 x y wd ht tile = 0
    · obtain ⟨f1, f2⟩ := fill_right2 hF
      have HL2 := Lib.hid (right_sq f2)
      have HE : Hid (fillP l rt side x y wd ht tile = putR l side.toNat (fillTiles side (getP l rt side).2.2 x y wd ht tile)) := by show _ = _; simp [fillP, hC, hF]
      rw [HE.out, ← putP_R hr f2]
      clear HE f2
      generalize getP l rt side = RES at *
      obtain ⟨C, S, T⟩ := RES
      simp only at hG hT hC h1 h2 hF f1 HL2 ⊢
      subst hC h1
      have hFl2 := fun A c w h => hFl A c T w h (by omega)
      rw [hF, f1] at hFl2
      clear hFl hF f1 h2
      generalize fillTiles S T x y wd ht tile = L2 at *
      go_enter Tryd.func32, Tryd.ntmps32
      go_wp2_with fail
      refine (hG _ HS0.out.p.rn HT0.out).mono ?_
      rintro e w1 ⟨A1, c1, rfl, ho1, hb1⟩
      have HS1 := Lib.hid ((HS0.out.below hb1).below ((Below.refl _ _).alloc (Nat.le_refl _) (.cells #[.int .i64 S, .slice A1 T.length c1, .int .i64 0] 37)))
      have HO1 := Lib.hid (ho1.keep ((Below.refl _ _).alloc (Nat.le_refl _) (.cells #[.int .i64 S, .slice A1 T.length c1, .int .i64 0] 37))).ri
      have k0 : (w1.alloc (.cells #[.int .i64 S, .slice A1 T.length c1, .int .i64 0] 37)).cell? ⟨w1.heap.size, 0, none⟩ = some (.int .i64 S) := by simp [go_sem]
      have k1 : (w1.alloc (.cells #[.int .i64 S, .slice A1 T.length c1, .int .i64 0] 37)).cell? ⟨w1.heap.size, 1, none⟩ = some (.slice A1 T.length c1) := by simp [go_sem]
      have k2 : (w1.alloc (.cells #[.int .i64 S, .slice A1 T.length c1, .int .i64 0] 37)).cell? ⟨w1.heap.size, 2, none⟩ = some (.int .i64 0) := by simp [go_sem]
      clear hb1 ho1
      go_wp2_with fail
      generalize w1.alloc (.cells #[.int .i64 S, .slice A1 T.length c1, .int .i64 0] 37) = w2 at *
      refine (hFl2 _ _ _ HO1.out).mono ?_
      rintro e w3 ⟨A3, c3, rfl, ho3, hb3⟩
      have HS3 := Lib.hid ((HS1.out.below hb3).below ((Below.refl _ _).alloc (Nat.le_refl _) (.cells #[.int .i64 S, .slice A3 L2.length c3, .int .i64 0] 37)))
      have HO3 := Lib.hid (ho3.keep ((Below.refl _ _).alloc (Nat.le_refl _) (.cells #[.int .i64 S, .slice A3 L2.length c3, .int .i64 0] 37))).ri
      have m0 : (w3.alloc (.cells #[.int .i64 S, .slice A3 L2.length c3, .int .i64 0] 37)).cell? ⟨w3.heap.size, 0, none⟩ = some (.int .i64 S) := by simp [go_sem]
      have m1 : (w3.alloc (.cells #[.int .i64 S, .slice A3 L2.length c3, .int .i64 0] 37)).cell? ⟨w3.heap.size, 1, none⟩ = some (.slice A3 L2.length c3) := by simp [go_sem]
      have m2 : (w3.alloc (.cells #[.int .i64 S, .slice A3 L2.length c3, .int .i64 0] 37)).cell? ⟨w3.heap.size, 2, none⟩ = some (.int .i64 0) := by simp [go_sem]
      have p0 := HS3.out.p.c0
      clear hb3 ho3 k0 k1 k2
      go_wp2_with fail
      generalize w3.alloc (.cells #[.int .i64 S, .slice A3 L2.length c3, .int .i64 0] 37) = w4 at *
      have h200 := pool_len hr
      have hsb := side_bound hs
      have eS : ((S.toNat : Nat) : Int) = S := by omega
      rcases HS3.out.p.rn with hnil | ⟨b, off, rfl, hbl, hn⟩
      · exact absurd hnil h3
      have hPut := pPoolPut_any b off c c3 l S A3 L2 _ ⟨hbl, hn⟩ (by omega) HO3.out (by have := HL2.out; have : S.toNat * S.toNat ≤ 8 * 8 := Nat.mul_le_mul (by omega) (by omega); omega) hc HF.out
      refine hPut.mono ?_
      rintro e w5 ⟨A5, c5, rfl, ho5, hb5⟩
      have HS5 := Lib.hid (HS3.out.below hb5)
      have HO5 := Lib.hid (OwnN.lower (base' := w.heap.size + 1 + 1) HS3.out.siz ho5)
      obtain ⟨_, d0, d1, d2, e0, e1, e2, hz5⟩ := HS5.out
      clear hb5 ho5 hPut p0 m0 m1 m2
      generalize putP l S L2 = R at *
      obtain ⟨rc, rr, rl⟩ := R
      simp only at HO5
      go_wp2_with fail
      refine bodyPost_ret (v := .agg #[.slice A5 rl.length c5, .int .i64 rr, .int .i64 rc]) (by simp [results, Tryd.results32, go_sem, d0, d1, d2]) rfl ⟨A5, c5, rfl, ?_, ?_⟩
      · exact OwnN.lower (base := w.heap.size + 1 + 1) (by omega) (OwnN.set_below (by show w.heap.size + 1 < _; omega) _ (OwnN.set_below (by show w.heap.size + 1 < _; omega) _ (OwnN.set_below (by show w.heap.size + 1 < _; omega) _ HO5.out)))
      · exact ((HS5.out.p.bel.setCell (by simp) _).setCell (by simp) _).setCell (by simp) _
    · have HE : Hid (fillP l rt side x y wd ht tile = (fillCode side (getP l rt side).2.2 x y wd ht tile, 0, [])) := by show _ = _; simp [fillP, hC, hF]
      rw [HE.out]
      clear HE
      generalize getP l rt side = RES at *
      obtain ⟨C, S, T⟩ := RES
      simp only at hG hT hC h1 h2 hF ⊢
      subst hC h1
      have hFl2 := fun A c w h => hFl A c T w h (by omega)
      have hq : (fillCode S T x y wd ht tile != 0) = true := by simpa using hF
      clear hFl hF h2
      generalize fillTiles S T x y wd ht tile = L2 at *
      generalize fillSide S T x y wd ht tile = S2 at *
      generalize fillCode S T x y wd ht tile = C2 at *
      go_enter Tryd.func32, Tryd.ntmps32
      go_wp2_with fail
      refine (hG _ HS0.out.p.rn HT0.out).mono ?_
      rintro e w1 ⟨A1, c1, rfl, ho1, hb1⟩
      have HS1 := Lib.hid ((HS0.out.below hb1).below ((Below.refl _ _).alloc (Nat.le_refl _) (.cells #[.int .i64 S, .slice A1 T.length c1, .int .i64 0] 37)))
      have HO1 := Lib.hid (ho1.keep ((Below.refl _ _).alloc (Nat.le_refl _) (.cells #[.int .i64 S, .slice A1 T.length c1, .int .i64 0] 37))).ri
      have k0 : (w1.alloc (.cells #[.int .i64 S, .slice A1 T.length c1, .int .i64 0] 37)).cell? ⟨w1.heap.size, 0, none⟩ = some (.int .i64 S) := by simp [go_sem]
      have k1 : (w1.alloc (.cells #[.int .i64 S, .slice A1 T.length c1, .int .i64 0] 37)).cell? ⟨w1.heap.size, 1, none⟩ = some (.slice A1 T.length c1) := by simp [go_sem]
      have k2 : (w1.alloc (.cells #[.int .i64 S, .slice A1 T.length c1, .int .i64 0] 37)).cell? ⟨w1.heap.size, 2, none⟩ = some (.int .i64 0) := by simp [go_sem]
      clear hb1 ho1
      go_wp2_with fail
      generalize w1.alloc (.cells #[.int .i64 S, .slice A1 T.length c1, .int .i64 0] 37) = w2 at *
      refine (hFl2 _ _ _ HO1.out).mono ?_
      rintro e w3 ⟨A3, c3, rfl, ho3, hb3⟩
      have HS3 := Lib.hid ((HS1.out.below hb3).below ((Below.refl _ _).alloc (Nat.le_refl _) (.cells #[.int .i64 S2, .slice A3 L2.length c3, .int .i64 C2] 37)))
      have m2 : (w3.alloc (.cells #[.int .i64 S2, .slice A3 L2.length c3, .int .i64 C2] 37)).cell? ⟨w3.heap.size, 2, none⟩ = some (.int .i64 C2) := by simp [go_sem]
      clear hb3 ho3 k0 k1 k2
      obtain ⟨_, d0, d1, d2, e0, e1, e2, hz5⟩ := HS3.out
      go_wp2
      refine bodyPost_ret (v := .agg #[.slice none 0 0, .int .i64 0, .int .i64 C2]) (by simp [results, Tryd.results32, go_sem, d0, d1, d2]) rfl ⟨none, 0, rfl, OwnN.nil _ _, ?_⟩
      exact ((HS3.out.p.bel.setCell (by simp) _).setCell (by simp) _).setCell (by simp) _
  · have HE : Hid (fillP l rt side x y wd ht tile = ((getP l rt side).1, 0, [])) := by show _ = _; simp [fillP, hC]
    rw [HE.out]
    clear HE hFl
    generalize getP l rt side = RES at *
    obtain ⟨C, S, T⟩ := RES
    simp only at hG hT hC ⊢
    have hq : (C != 0) = true := by simpa using hC
    clear hC
    go_enter Tryd.func32, Tryd.ntmps32
    go_wp2_with fail
    refine (hG _ HS0.out.p.rn HT0.out).mono ?_
    rintro e w1 ⟨A1, c1, rfl, ho1, hb1⟩
    have HS1 := Lib.hid ((HS0.out.below hb1).below ((Below.refl _ _).alloc (Nat.le_refl _) (.cells #[.int .i64 S, .slice A1 T.length c1, .int .i64 C] 37)))
    have k2 : (w1.alloc (.cells #[.int .i64 S, .slice A1 T.length c1, .int .i64 C] 37)).cell? ⟨w1.heap.size, 2, none⟩ = some (.int .i64 C) := by simp [go_sem]
    clear hb1 ho1
    obtain ⟨_, d0, d1, d2, e0, e1, e2, hz5⟩ := HS1.out
    go_wp2
    refine bodyPost_ret (v := .agg #[.slice none 0 0, .int .i64 0, .int .i64 C]) (by simp [results, Tryd.results32, go_sem, d0, d1, d2]) rfl ⟨none, 0, rfl, OwnN.nil _ _, ?_⟩
    exact ((HS1.out.p.bel.setCell (by simp) _).setCell (by simp) _).setCell (by simp) _
end Go.Proofs.YtoobkajilbmdhaaDoor

namespace Go.Proofs.YtoobkajilbmdhaaDoor
open Go.RowKit
set_option linter.unusedVariables false
set_option linter.unusedSimpArgs false

set_option maxRecDepth 100000 in
set_option maxHeartbeats 1000000 in
theorem mNodeFill_any (A : Option Addr) (c : Nat) (l : List Nd) (rt side x y wd ht tile : Int) (w : World) (h : RN w w.heap.size A l) (hl : l.length ≤ 1000000000) (hx : In64 x) (hy : In64 y) :
    Calls Tryd.prog 30 #[.agg #[.slice A l.length c], .int .i64 rt, .int .i64 side, .int .i64 x, .int .i64 y, .int .i64 wd, .int .i64 ht, .int .i64 tile] w (POut w (fillP l rt side x y wd ht tile)) := by
  have hG := fun w h => mPoolGet_any A c l rt side w h hl
  have hT := getP_len l rt side
  have HS0 := Lib.hid (SB.made w A c l h)
  have hFl := fun A c t w h hl => mFill_any side x y wd ht tile A c t w h hl hx.1 hx.2 hy.1 hy.2
  clear h hx hy
  by_cases hC : (getP l rt side).1 = 0
  · obtain ⟨hr, hs, h1, h2, h3⟩ := getP_ok hC
    by_cases hF : fillCode side (getP l rt side).2.2 x y wd ht tile = 0
    · obtain ⟨f1, f2⟩ := fill_right2 hF
      have HL2 := Lib.hid (right_sq f2)
      have HE : Hid (fillP l rt side x y wd ht tile = putR l side.toNat (fillTiles side (getP l rt side).2.2 x y wd ht tile)) := by show _ = _; simp [fillP, hC, hF]
      rw [HE.out]
      clear HE f2
      generalize getP l rt side = RES at *
      obtain ⟨C, S, T⟩ := RES
      simp only at hG hT hC h1 h2 hF f1 HL2 ⊢
      subst hC h1
      have hFl2 := fun A c w h => hFl A c T w h (by omega)
      rw [hF, f1] at hFl2
      clear hFl hF f1 h2
      generalize fillTiles S T x y wd ht tile = L2 at *
      go_enter Tryd.func30, Tryd.ntmps30
      go_wp2_with fail
      refine (hG _ HS0.out.p.rn).mono ?_
      rintro e w1 ⟨A1, c1, rfl, ho1, hb1⟩
      have HS1 := Lib.hid ((HS0.out.below hb1).below ((Below.refl _ _).alloc (Nat.le_refl _) (.cells #[.int .i64 S, .slice A1 T.length c1, .int .i64 0] 37)))
      have HO1 := Lib.hid (ho1.keep ((Below.refl _ _).alloc (Nat.le_refl _) (.cells #[.int .i64 S, .slice A1 T.length c1, .int .i64 0] 37))).ri
      have k0 : (w1.alloc (.cells #[.int .i64 S, .slice A1 T.length c1, .int .i64 0] 37)).cell? ⟨w1.heap.size, 0, none⟩ = some (.int .i64 S) := by simp [go_sem]
      have k1 : (w1.alloc (.cells #[.int .i64 S, .slice A1 T.length c1, .int .i64 0] 37)).cell? ⟨w1.heap.size, 1, none⟩ = some (.slice A1 T.length c1) := by simp [go_sem]
      have k2 : (w1.alloc (.cells #[.int .i64 S, .slice A1 T.length c1, .int .i64 0] 37)).cell? ⟨w1.heap.size, 2, none⟩ = some (.int .i64 0) := by simp [go_sem]
      clear hb1 ho1
      go_wp2_with fail
      generalize w1.alloc (.cells #[.int .i64 S, .slice A1 T.length c1, .int .i64 0] 37) = w2 at *
      refine (hFl2 _ _ _ HO1.out).mono ?_
      rintro e w3 ⟨A3, c3, rfl, ho3, hb3⟩
      have HS3 := Lib.hid ((HS1.out.below hb3).below ((Below.refl _ _).alloc (Nat.le_refl _) (.cells #[.int .i64 S, .slice A3 L2.length c3, .int .i64 0] 37)))
      have HO3 := Lib.hid (ho3.keep ((Below.refl _ _).alloc (Nat.le_refl _) (.cells #[.int .i64 S, .slice A3 L2.length c3, .int .i64 0] 37))).ri
      have m0 : (w3.alloc (.cells #[.int .i64 S, .slice A3 L2.length c3, .int .i64 0] 37)).cell? ⟨w3.heap.size, 0, none⟩ = some (.int .i64 S) := by simp [go_sem]
      have m1 : (w3.alloc (.cells #[.int .i64 S, .slice A3 L2.length c3, .int .i64 0] 37)).cell? ⟨w3.heap.size, 1, none⟩ = some (.slice A3 L2.length c3) := by simp [go_sem]
      have m2 : (w3.alloc (.cells #[.int .i64 S, .slice A3 L2.length c3, .int .i64 0] 37)).cell? ⟨w3.heap.size, 2, none⟩ = some (.int .i64 0) := by simp [go_sem]
      have p0 := HS3.out.p.c0
      clear hb3 ho3 k0 k1 k2
      go_wp2_with fail
      generalize w3.alloc (.cells #[.int .i64 S, .slice A3 L2.length c3, .int .i64 0] 37) = w4 at *
      have h200 := pool_len hr
      have hsb := side_bound hs
      have eS : ((S.toNat : Nat) : Int) = S := by omega
      rcases HS3.out.p.rn with hnil | ⟨b, off, rfl, hbl, hn⟩
      · exact absurd hnil h3
      have hPut := mPut_any b off c c3 S.toNat l A3 L2 _ hbl hn (by omega) HO3.out (by rw [eS]; exact hs) HL2.out
      rw [eS] at hPut
      refine hPut.mono ?_
      rintro e w5 ⟨A5, c5, rfl, ho5, hb5⟩
      have HS5 := Lib.hid (HS3.out.below hb5)
      have HO5 := Lib.hid (OwnN.lower (base' := w.heap.size + 1 + 1) HS3.out.siz ho5)
      obtain ⟨_, d0, d1, d2, e0, e1, e2, hz5⟩ := HS5.out
      clear hb5 ho5 hPut p0 m0 m1 m2
      generalize putR l S.toNat L2 = R at *
      obtain ⟨rc, rr, rl⟩ := R
      simp only at HO5
      go_wp2_with fail
      refine bodyPost_ret (v := .agg #[.slice A5 rl.length c5, .int .i64 rr, .int .i64 rc]) (by simp [results, Tryd.results30, go_sem, d0, d1, d2]) rfl ⟨A5, c5, rfl, ?_, ?_⟩
      · exact OwnN.lower (base := w.heap.size + 1 + 1) (by omega) (OwnN.set_below (by show w.heap.size + 1 < _; omega) _ (OwnN.set_below (by show w.heap.size + 1 < _; omega) _ (OwnN.set_below (by show w.heap.size + 1 < _; omega) _ HO5.out)))
      · exact ((HS5.out.p.bel.setCell (by simp) _).setCell (by simp) _).setCell (by simp) _
    · have HE : Hid (fillP l rt side x y wd ht tile = (fillCode side (getP l rt side).2.2 x y wd ht tile, 0, [])) := by show _ = _; simp [fillP, hC, hF]
      rw [HE.out]
      clear HE
      generalize getP l rt side = RES at *
      obtain ⟨C, S, T⟩ := RES
      simp only at hG hT hC h1 h2 hF ⊢
      subst hC h1
      have hFl2 := fun A c w h => hFl A c T w h (by omega)
      have hq : (fillCode S T x y wd ht tile != 0) = true := by simpa using hF
      clear hFl hF h2
      generalize fillTiles S T x y wd ht tile = L2 at *
      generalize fillSide S T x y wd ht tile = S2 at *
      generalize fillCode S T x y wd ht tile = C2 at *
      have hIll := mPIll_any C2
      go_enter Tryd.func30, Tryd.ntmps30
      go_wp2_with fail
      refine (hG _ HS0.out.p.rn).mono ?_
      rintro e w1 ⟨A1, c1, rfl, ho1, hb1⟩
      have HS1 := Lib.hid ((HS0.out.below hb1).below ((Below.refl _ _).alloc (Nat.le_refl _) (.cells #[.int .i64 S, .slice A1 T.length c1, .int .i64 0] 37)))
      have HO1 := Lib.hid (ho1.keep ((Below.refl _ _).alloc (Nat.le_refl _) (.cells #[.int .i64 S, .slice A1 T.length c1, .int .i64 0] 37))).ri
      have k0 : (w1.alloc (.cells #[.int .i64 S, .slice A1 T.length c1, .int .i64 0] 37)).cell? ⟨w1.heap.size, 0, none⟩ = some (.int .i64 S) := by simp [go_sem]
      have k1 : (w1.alloc (.cells #[.int .i64 S, .slice A1 T.length c1, .int .i64 0] 37)).cell? ⟨w1.heap.size, 1, none⟩ = some (.slice A1 T.length c1) := by simp [go_sem]
      have k2 : (w1.alloc (.cells #[.int .i64 S, .slice A1 T.length c1, .int .i64 0] 37)).cell? ⟨w1.heap.size, 2, none⟩ = some (.int .i64 0) := by simp [go_sem]
      clear hb1 ho1
      go_wp2_with fail
      generalize w1.alloc (.cells #[.int .i64 S, .slice A1 T.length c1, .int .i64 0] 37) = w2 at *
      refine (hFl2 _ _ _ HO1.out).mono ?_
      rintro e w3 ⟨A3, c3, rfl, ho3, hb3⟩
      have HS3 := Lib.hid ((HS1.out.below hb3).below ((Below.refl _ _).alloc (Nat.le_refl _) (.cells #[.int .i64 S2, .slice A3 L2.length c3, .int .i64 C2] 37)))
      have m2 : (w3.alloc (.cells #[.int .i64 S2, .slice A3 L2.length c3, .int .i64 C2] 37)).cell? ⟨w3.heap.size, 2, none⟩ = some (.int .i64 C2) := by simp [go_sem]
      clear hb3 ho3 k0 k1 k2
      go_wp2_with fail
      generalize w3.alloc (.cells #[.int .i64 S2, .slice A3 L2.length c3, .int .i64 C2] 37) = w4 at *
      refine (hIll _).mono ?_
      rintro e w5 ⟨rfl, hb5⟩
      have HS5 := Lib.hid (HS3.out.below hb5)
      obtain ⟨_, d0, d1, d2, e0, e1, e2, hz5⟩ := HS5.out
      clear hb5 m2
      go_wp2
      refine bodyPost_ret (v := .agg #[.slice none 0 0, .int .i64 0, .int .i64 C2]) (by simp [results, Tryd.results30, go_sem, d0, d1, d2]) rfl ⟨none, 0, rfl, OwnN.nil _ _, ?_⟩
      exact ((HS5.out.p.bel.setCell (by simp) _).setCell (by simp) _).setCell (by simp) _
  · have HE : Hid (fillP l rt side x y wd ht tile = ((getP l rt side).1, 0, [])) := by show _ = _; simp [fillP, hC]
    rw [HE.out]
    clear HE hFl
    generalize getP l rt side = RES at *
    obtain ⟨C, S, T⟩ := RES
    simp only at hG hT hC ⊢
    have hq : (C != 0) = true := by simpa using hC
    have hIll := mPIll_any C
    clear hC
    go_enter Tryd.func30, Tryd.ntmps30
    go_wp2_with fail
    refine (hG _ HS0.out.p.rn).mono ?_
    rintro e w1 ⟨A1, c1, rfl, ho1, hb1⟩
    have HS1 := Lib.hid ((HS0.out.below hb1).below ((Below.refl _ _).alloc (Nat.le_refl _) (.cells #[.int .i64 S, .slice A1 T.length c1, .int .i64 C] 37)))
    have k2 : (w1.alloc (.cells #[.int .i64 S, .slice A1 T.length c1, .int .i64 C] 37)).cell? ⟨w1.heap.size, 2, none⟩ = some (.int .i64 C) := by simp [go_sem]
    clear hb1 ho1
    go_wp2_with fail
    generalize w1.alloc (.cells #[.int .i64 S, .slice A1 T.length c1, .int .i64 C] 37) = w2 at *
    refine (hIll _).mono ?_
    rintro e w5 ⟨rfl, hb5⟩
    have HS5 := Lib.hid (HS1.out.below hb5)
    obtain ⟨_, d0, d1, d2, e0, e1, e2, hz5⟩ := HS5.out
    clear hb5 k2
    go_wp2
    refine bodyPost_ret (v := .agg #[.slice none 0 0, .int .i64 0, .int .i64 C]) (by simp [results, Tryd.results30, go_sem, d0, d1, d2]) rfl ⟨none, 0, rfl, OwnN.nil _ _, ?_⟩
    exact ((HS5.out.p.bel.setCell (by simp) _).setCell (by simp) _).setCell (by simp) _
end Go.Proofs.YtoobkajilbmdhaaDoor
