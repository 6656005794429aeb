/- Several texts in one: PgSet, TuT, TuO, NtL, TuM, TuP, NtP, NtM. -/
import Derived.Test.YtoobkajilbmdhaaDoorPgG
import Derived.Test.YtoobkajilbmdhaaDoorMSa
import Derived.Test.YtoobkajilbmdhaaDoorPgB
import Derived.Test.YtoobkajilbmdhaaDoorMSb
import Derived.Test.YtoobkajilbmdhaaDoorGridM
import Derived.Test.YtoobkajilbmdhaaDoorGridA
import Derived.Test.YtoobkajilbmdhaaDoorGridF
import Derived.BigRegion
import Derived.Test.YtoobkajilbmdhaaDoorMSh
import Derived.BigQuiet
namespace Go.Proofs.YtoobkajilbmdhaaDoor
open Go.RowKit
set_option linter.unusedVariables false
set_option linter.unusedSimpArgs false

theorem leaf_tile {l : List Nd} (hr : poolRight l = true) {k : Nat} (hk : k < l.length) (hf : leafN l[k] = true) : tileOk l[k].tile = true := by
  have h := right_node hr hk
  rw [nodeOk, if_pos hf, leafOk] at h
  simp only [Bool.and_eq_true] at h
  exact h.1.1.1.1
theorem tileN_ok {l : List Nd} (hr : poolRight l = true) : ∀ (d k x y : Nat) (hk : k < l.length), (hts l).getD k 0 ≤ d → tileOk (tileN l d k x y) = true := by
  intro d
  induction d with
  | zero =>
    intro k x y hk hh
    cases hf : leafN l[k]
    · obtain ⟨e, he, _⟩ := tile_down hr (x := x) (y := y) hk hf hh
      omega
    · rw [tileN_leaf (by rw [ndAt_eq hk]; exact hf), ndAt_eq hk]
      exact leaf_tile hr hk hf
  | succ d ih =>
    intro k x y hk hh
    cases hf : leafN l[k]
    · obtain ⟨e, he, hq, hq2, ht⟩ := tile_down hr (x := x) (y := y) hk hf hh
      obtain rfl : e = d := by omega
      rw [ht]
      exact ih _ _ _ (by omega) hq2
    · rw [tileN_leaf (by rw [ndAt_eq hk]; exact hf), ndAt_eq hk]
      exact leaf_tile hr hk hf
theorem getTo_ok {l : List Nd} (hr : poolRight l = true) {d root : Nat} (hk : root < l.length) (hh : (hts l).getD root 0 ≤ d) : ∀ k, ∀ t ∈ getTo l d root k, tileOk t = true
  | 0, t, h => by simp [getTo] at h
  | k + 1, t, h => by
    rw [getTo, List.mem_append] at h
    rcases h with h | h
    · exact getTo_ok hr hk hh k t h
    · simp only [List.mem_singleton] at h
      rw [h]
      exact tileN_ok hr _ _ _ _ hk hh
/-- What is got is right. -/
theorem getP_right {l : List Nd} {rt side : Int} (h : (getP l rt side).1 = 0) : gridRight side (getP l rt side).2.2 = true := by
  obtain ⟨hr, hs, h1, h2, h3⟩ := getP_ok h
  have hall : ∀ t ∈ (getP l rt side).2.2, tileOk t = true := by
    have e : getP l rt side = getG l rt side := by simp [getP, hr, hs]
    rw [e] at h ⊢
    unfold getG at h ⊢
    cases ht : thereN l.length rt
    · rw [ht, if_neg (by simp)] at h
      exact absurd h (by decide)
    · rw [ht, if_pos rfl] at h
      rw [if_pos rfl]
      by_cases hh : (hts l).getD rt.toNat 0 ≤ (dbl side.toNat : Int)
      · rw [if_pos hh]
        have hb : 0 ≤ rt ∧ rt < l.length := by simp [thereN, inIs] at ht; omega
        exact getTo_ok hr (by omega) hh _
      · rw [if_neg hh] at h
        exact absurd h (by decide)
  have hlen : ((getP l rt side).2.2.length : Int) = side * side := by
    rw [h2]
    rcases (sideOk_iff side).1 hs with rfl | rfl | rfl | rfl <;> rfl
  simp only [gridRight, Bool.and_eq_true, beq_iff_eq, List.all_eq_true]
  exact ⟨⟨hs, hlen⟩, hall⟩
theorem set_right' {side : Int} {t : List Int} {k : Nat} {n : Int} (h : gridRight side t = true) (hn : tileOk n = true) : gridRight side (t.set k n) = true := by
  simp only [gridRight, Bool.and_eq_true, List.length_set, List.all_eq_true] at h ⊢
  refine ⟨h.1, fun x hx => ?_⟩
  rcases List.mem_or_eq_of_mem_set hx with hx | rfl
  · exact h.2 x hx
  · exact hn
theorem putP_R {l : List Nd} {side : Int} {t : List Int} (hr : poolRight l = true) (hg : gridRight side t = true) : putP l side t = putR l side.toNat t := by
  simp [putP, putR, hr, hg]

theorem putR_len (l : List Nd) (sn : Nat) (t : List Int) : (putR l sn t).2.2.length ≤ 200 := by
  unfold putR
  simp only
  split
  · next h => exact h
  · simp
theorem setP_len (l : List Nd) (rt side x y tile : Int) : (setP l rt side x y tile).2.2.length ≤ 200 := by
  unfold setP
  split
  · split
    · split
      · exact putR_len _ _ _
      · simp
    · simp
  · simp

set_option maxRecDepth 100000 in
set_option maxHeartbeats 1000000 in
theorem pPoolSet_any (A : Option Addr) (c : Nat) (l : List Nd) (rt side x y tile : Int) (w : World) (h : RN w w.heap.size A l) (hl : l.length ≤ 1048576) (hc : l.length ≤ c) (hf : ∀ n ∈ l, n.Fits) (hx : In64 x) (hy : In64 y) (htab : HasTab w) :
    Calls Tryd.prog 11 #[.agg #[.slice A l.length c], .int .i64 rt, .int .i64 side, .int .i64 x, .int .i64 y, .int .i64 tile] w (POut w (setP l rt side x y tile)) := by
  have hbw : Below w.heap.size w ((w.alloc (.cells #[.slice A l.length c] 25)).alloc (.cells #[.slice none 0 0, .int .i64 0, .int .i64 0] 32)) := ((Below.refl _ _).alloc (Nat.le_refl _) _).alloc (by simp) _
  have HT0 := Lib.hid (htab.below hbw)
  have hG := fun w h ht => pPoolGet_any A c l rt side w h hl hc hf ht
  have hT := getP_len l rt side
  have HS0 := Lib.hid (SB.made w A c l h)
  have HF := Lib.hid hf
  clear h hbw htab hf
  by_cases hC : (getP l rt side).1 = 0
  · obtain ⟨hr, hs, h1, h2, h3⟩ := getP_ok hC
    have HGR := Lib.hid (getP_right hC)
    have hIn := fun w => pPlace_any side x y w hs hx hy
    have hTi := pTile_any tile
    clear hx hy
    cases hi : gridIn side x y
    · have HE : Hid (setP l rt side x y tile = (8, 0, [])) := by show _ = _; simp [setP, hC, hi]
      rw [HE.out]
      rw [hi] at hIn
      clear HE HGR
      generalize getP l rt side = RES at *
      obtain ⟨C, S, T⟩ := RES
      simp only at hG hT hC h1 h2 ⊢
      subst hC h1
      clear h2
      go_enter Tryd.func11, Tryd.ntmps11
      go_wp2_with fail
      refine (hG _ HS0.out.p.rn HT0.out).mono ?_
      rintro e w1 ⟨A1, c1, rfl, ho1, hb1⟩
      have HS1 := Lib.hid ((HS0.out.below hb1).below ((Below.refl _ _).alloc (Nat.le_refl _) (.cells #[.int .i64 S, .slice A1 T.length c1, .int .i64 0] 37)))
      clear hb1 ho1
      go_wp2_with fail
      refine (hIn _).mono ?_
      rintro e w2 ⟨rfl, rfl⟩
      obtain ⟨_, c0, c1', c2, f0, f1, f2, hz4⟩ := HS1.out
      go_wp2
      refine bodyPost_ret (v := .agg #[.slice none 0 0, .int .i64 0, .int .i64 8]) (by simp [results, Tryd.results11, go_sem, c0, c1', c2]) rfl ⟨none, 0, rfl, OwnN.nil _ _, ?_⟩
      exact ((HS1.out.p.bel.setCell (by simp) _).setCell (by simp) _).setCell (by simp) _
    · cases ht : tileOk tile
      · have HE : Hid (setP l rt side x y tile = (1, 0, [])) := by show _ = _; simp [setP, hC, hi, ht]
        rw [HE.out]
        rw [hi] at hIn
        rw [ht] at hTi
        clear HE HGR
        generalize getP l rt side = RES at *
        obtain ⟨C, S, T⟩ := RES
        simp only at hG hT hC h1 h2 ⊢
        subst hC h1
        clear h2
        go_enter Tryd.func11, Tryd.ntmps11
        go_wp2_with fail
        refine (hG _ HS0.out.p.rn HT0.out).mono ?_
        rintro e w1 ⟨A1, c1, rfl, ho1, hb1⟩
        have HS1 := Lib.hid ((HS0.out.below hb1).below ((Below.refl _ _).alloc (Nat.le_refl _) (.cells #[.int .i64 S, .slice A1 T.length c1, .int .i64 0] 37)))
        clear hb1 ho1
        go_wp2_with fail
        refine (hIn _).mono ?_
        rintro e w2 ⟨rfl, rfl⟩
        go_wp2_with fail
        refine (hTi _).mono ?_
        rintro e w3 ⟨rfl, rfl⟩
        obtain ⟨_, c0, c1', c2, f0, f1, f2, hz4⟩ := HS1.out
        go_wp2
        refine bodyPost_ret (v := .agg #[.slice none 0 0, .int .i64 0, .int .i64 1]) (by simp [results, Tryd.results11, go_sem, c0, c1', c2]) rfl ⟨none, 0, rfl, OwnN.nil _ _, ?_⟩
        exact ((HS1.out.p.bel.setCell (by simp) _).setCell (by simp) _).setCell (by simp) _
      · have HE : Hid (setP l rt side x y tile = putP l side ((getP l rt side).2.2.set (y * side + x).toNat tile)) := by show _ = _; rw [putP_R hr (set_right' HGR.out ht)]; simp [setP, hC, hi, ht]
        rw [HE.out]
        obtain ⟨j, hj, hjl, hw1, hw2⟩ := got_place hs h2 hi
        rw [hj] at hw2
        rw [hj, Int.toNat_natCast]
        have HJ := Lib.hid hj
        rw [hi] at hIn
        rw [ht] at hTi
        clear HE hi ht HGR
        generalize getP l rt side = RES at *
        obtain ⟨C, S, T⟩ := RES
        simp only at hG hT hC h1 h2 ⊢
        subst hC h1
        have HL2 := Lib.hid h2
        clear h2
        go_enter Tryd.func11, Tryd.ntmps11
        go_wp2_with fail
        refine (hG _ HS0.out.p.rn HT0.out).mono ?_
        rintro e w1 ⟨A1, c1, rfl, ho1, hb1⟩
        have HS1 := Lib.hid ((HS0.out.below hb1).below ((Below.refl _ _).alloc (Nat.le_refl _) (.cells #[.int .i64 S, .slice A1 T.length c1, .int .i64 0] 37)))
        obtain ⟨g, rfl, hg1, hg2, _, _⟩ := ho1.at_ hjl
        have hg1' : w.heap.size + 1 + 1 ≤ g := by simpa using hg1
        have k0 : (w1.alloc (.cells #[.int .i64 S, .slice (some ⟨g, 0, none⟩) T.length c1, .int .i64 0] 37)).cell? ⟨w1.heap.size, 0, none⟩ = some (.int .i64 S) := by simp [go_sem]
        have k1 : (w1.alloc (.cells #[.int .i64 S, .slice (some ⟨g, 0, none⟩) T.length c1, .int .i64 0] 37)).cell? ⟨w1.heap.size, 1, none⟩ = some (.slice (some ⟨g, 0, none⟩) T.length c1) := by simp [go_sem]
        have k2 : (w1.alloc (.cells #[.int .i64 S, .slice (some ⟨g, 0, none⟩) T.length c1, .int .i64 0] 37)).cell? ⟨w1.heap.size, 2, none⟩ = some (.int .i64 0) := by simp [go_sem]
        have ho2 := ho1.keep ((Below.refl _ _).alloc (Nat.le_refl _) (.cells #[.int .i64 S, .slice (some ⟨g, 0, none⟩) T.length c1, .int .i64 0] 37))
        have HO3 := Lib.hid (ho2.store (j := j) tile).1
        obtain ⟨g', e', _, _, hcj, hfj⟩ := ho2.at_ hjl
        cases e'
        have hz2 : w1.heap.size < (w1.alloc (.cells #[.int .i64 S, .slice (some ⟨g, 0, none⟩) T.length c1, .int .i64 0] 37)).heap.size := by simp
        clear hb1 ho1 ho2 hg1
        go_wp2_with fail
        generalize w1.alloc (.cells #[.int .i64 S, .slice (some ⟨g, 0, none⟩) T.length c1, .int .i64 0] 37) = w2 at *
        refine (hIn _).mono ?_
        rintro e w3 ⟨rfl, rfl⟩
        go_wp2_with fail
        refine (hTi _).mono ?_
        rintro e w3 ⟨rfl, rfl⟩
        have hb3 : Below (w.heap.size + 1 + 1) w2 (w2.setCell ⟨g, j, none⟩ (.int .i64 tile)) := (Below.refl _ _).setCell hg1' _
        have HS3 := Lib.hid (HS1.out.step hb3)
        clear hb3
        have p0 := HS1.out.p.c0
        have n1 : g ≠ w.heap.size := by omega
        have n2 : w.heap.size ≠ g := by omega
        have n3 : g ≠ w1.heap.size := by omega
        have n4 : w1.heap.size ≠ g := by omega
        go_wp2_with fail
        have h200 := pool_len hr
        rcases HS3.out.p.rn with hnil | ⟨b, off, rfl, hbl, hn⟩
        · exact absurd hnil h3
        have hPut := pPoolPut_any b off c c1 l S (some ⟨g, 0, none⟩) (T.set j tile) _ ⟨hbl, hn⟩ (by omega) HO3.out.ri (by rw [List.length_set]; omega) hc HF.out
        rw [List.length_set] at hPut
        refine hPut.mono ?_
        rintro e w4 ⟨A4, c4, rfl, ho4, hb4⟩
        have HS4 := Lib.hid (HS3.out.below hb4)
        have HO4 := Lib.hid (OwnN.lower (base' := w.heap.size + 1 + 1) HS3.out.siz ho4)
        obtain ⟨_, c0, c1', c2, f0, f1, f2, hz4⟩ := HS4.out
        clear hb4 ho4 hPut n1 n2 n3 n4 p0 k0 k1 k2 hcj hfj
        generalize putP l S (T.set j tile) = R at *
        obtain ⟨rc, rr, rl⟩ := R
        simp only at HO4
        go_wp2_with fail
        refine bodyPost_ret (v := .agg #[.slice A4 rl.length c4, .int .i64 rr, .int .i64 rc]) (by simp [results, Tryd.results11, go_sem, c0, c1', c2]) rfl ⟨A4, c4, rfl, ?_, ?_⟩
        · exact OwnN.lower (base := w.heap.size + 1 + 1) (by omega) (OwnN.set_below (by show w.heap.size + 1 < _; omega) _ (OwnN.set_below (by show w.heap.size + 1 < _; omega) _ (OwnN.set_below (by show w.heap.size + 1 < _; omega) _ HO4.out)))
        · exact ((HS4.out.p.bel.setCell (by simp) _).setCell (by simp) _).setCell (by simp) _
  · have HE : Hid (setP l rt side x y tile = ((getP l rt side).1, 0, [])) := by show _ = _; simp [setP, hC]
    rw [HE.out]
    clear HE hx hy
    generalize getP l rt side = RES at *
    obtain ⟨C, S, T⟩ := RES
    simp only at hG hT hC ⊢
    have hq : (C != 0) = true := by simpa using hC
    clear hC
    go_enter Tryd.func11, Tryd.ntmps11
    go_wp2_with fail
    refine (hG _ HS0.out.p.rn HT0.out).mono ?_
    rintro e w1 ⟨A1, c1, rfl, ho1, hb1⟩
    have HS1 := Lib.hid ((HS0.out.below hb1).below ((Below.refl _ _).alloc (Nat.le_refl _) (.cells #[.int .i64 S, .slice A1 T.length c1, .int .i64 C] 37)))
    obtain ⟨_, c0, c1', c2, f0, f1, f2, hz4⟩ := HS1.out
    clear hb1 ho1
    go_wp2
    refine bodyPost_ret (v := .agg #[.slice none 0 0, .int .i64 0, .int .i64 C]) (by simp [results, Tryd.results11, go_sem, c0, c1', c2]) rfl ⟨none, 0, rfl, OwnN.nil _ _, ?_⟩
    exact ((HS1.out.p.bel.setCell (by simp) _).setCell (by simp) _).setCell (by simp) _
end Go.Proofs.YtoobkajilbmdhaaDoor

namespace Go.Proofs.YtoobkajilbmdhaaDoor
open Go.RowKit
set_option linter.unusedVariables false

/-- Each place of the new list has what stands at another place of the old one. -/
def permL (n : Nat) (f : Nat × Nat → Nat × Nat) (t : List Int) : List Int := (List.range (n * n)).map fun a => t.getD ((f (a % n, a / n)).2 * n + (f (a % n, a / n)).1) 0
def InSq (n : Nat) (p : Nat × Nat) : Prop := p.1 < n ∧ p.2 < n
theorem permL_len (n : Nat) (f : Nat × Nat → Nat × Nat) (t : List Int) : (permL n f t).length = n * n := by simp [permL]
theorem permL_at {n : Nat} {f : Nat × Nat → Nat × Nat} {t : List Int} {a : Nat} (h : a < n * n) : (permL n f t).getD a 0 = t.getD ((f (a % n, a / n)).2 * n + (f (a % n, a / n)).1) 0 := by
  simp [permL, List.getD, h]
theorem at_sq {n : Nat} {p : Nat × Nat} (h : InSq n p) : p.2 * n + p.1 < n * n ∧ (p.2 * n + p.1) % n = p.1 ∧ (p.2 * n + p.1) / n = p.2 := by
  obtain ⟨h1, h2⟩ := h
  have h0 : 0 < n := by omega
  refine ⟨?_, ?_, ?_⟩
  · have h3 : (p.2 + 1) * n ≤ n * n := Nat.mul_le_mul_right n (by omega)
    rw [Nat.add_mul, Nat.one_mul] at h3
    omega
  · rw [Nat.mul_comm, Nat.mul_add_mod]; exact Nat.mod_eq_of_lt h1
  · rw [Nat.mul_comm, Nat.mul_add_div h0, Nat.div_eq_of_lt h1]; rfl
theorem sq_at {n a : Nat} (h : a < n * n) : InSq n (a % n, a / n) ∧ a / n * n + a % n = a := by
  have h0 : 0 < n := by
    rcases Nat.eq_zero_or_pos n with h1 | h1
    · subst h1; simp at h
    · exact h1
  exact ⟨⟨Nat.mod_lt _ h0, (Nat.div_lt_iff_lt_mul h0).2 h⟩, by rw [Nat.mul_comm]; exact Nat.div_add_mod a n⟩
theorem list_getD {t u : List Int} (hl : t.length = u.length) (h : ∀ a, a < t.length → t.getD a 0 = u.getD a 0) : t = u := by
  apply List.ext_getElem hl
  intro a h1 h2
  have := h a h1
  simpa [List.getD, h1, h2] using this
theorem permL_id {n : Nat} {t : List Int} (h : t.length = n * n) : permL n id t = t := by
  refine list_getD (by rw [permL_len, h]) fun a ha => ?_
  rw [permL_len] at ha
  rw [permL_at ha]
  simp only [id, (sq_at ha).2]
theorem permL_congr {n : Nat} {f g : Nat × Nat → Nat × Nat} (t : List Int) (h : ∀ p, InSq n p → f p = g p) : permL n f t = permL n g t := by
  refine list_getD (by simp [permL_len]) fun a ha => ?_
  rw [permL_len] at ha
  rw [permL_at ha, permL_at ha, h _ (sq_at ha).1]
theorem permL_comp {n : Nat} {f g : Nat × Nat → Nat × Nat} (t : List Int) (h : ∀ p, InSq n p → InSq n (f p)) : permL n f (permL n g t) = permL n (fun p => g (f p)) t := by
  refine list_getD (by simp [permL_len]) fun a ha => ?_
  rw [permL_len] at ha
  have h1 := at_sq (h _ (sq_at ha).1)
  rw [permL_at ha, permL_at ha, permL_at h1.1, h1.2.1, h1.2.2]

/-- Whence a quarter's tile comes, and a mirror's. -/
def spin (n : Nat) (p : Nat × Nat) : Nat × Nat := (p.2, n - 1 - p.1)
def flipX (n : Nat) (p : Nat × Nat) : Nat × Nat := (n - 1 - p.1, p.2)
def spins (n : Nat) : Nat → Nat × Nat → Nat × Nat
  | 0, p => p
  | k + 1, p => spins n k (spin n p)
theorem spinIn {n : Nat} {p : Nat × Nat} (h : InSq n p) : InSq n (spin n p) := by obtain ⟨h1, h2⟩ := h; constructor <;> simp [spin] <;> omega
theorem flip_in {n : Nat} {p : Nat × Nat} (h : InSq n p) : InSq n (flipX n p) := by obtain ⟨h1, h2⟩ := h; constructor <;> simp [flipX] <;> omega
theorem spins_in {n : Nat} : ∀ (k : Nat) {p : Nat × Nat}, InSq n p → InSq n (spins n k p)
  | 0, _, h => h
  | k + 1, _, h => spins_in k (spinIn h)
theorem spins_comm {n : Nat} : ∀ (k : Nat) (p : Nat × Nat), spin n (spins n k p) = spins n k (spin n p)
  | 0, _ => rfl
  | k + 1, p => spins_comm k (spin n p)
theorem spins_next (n k : Nat) (p : Nat × Nat) : spins n (k + 1) p = spin n (spins n k p) := (spins_comm k p).symm
def fromT (n how : Nat) (p : Nat × Nat) : Nat × Nat := if 4 ≤ how then flipX n (spins n (how % 4) p) else spins n (how % 4) p
theorem fromT_in {n how : Nat} {p : Nat × Nat} (h : InSq n p) : InSq n (fromT n how p) := by
  unfold fromT
  split
  · exact flip_in (spins_in _ h)
  · exact spins_in _ h
/-- A row that is turned. -/
def turnL (n how : Nat) (t : List Int) : List Int := permL n (fromT n how) t
def rotL (n : Nat) (t : List Int) : List Int := permL n (spin n) t
def flipL (n : Nat) (t : List Int) : List Int := permL n (flipX n) t
def rotsL (n : Nat) : Nat → List Int → List Int
  | 0, t => t
  | k + 1, t => rotsL n k (rotL n t)
theorem rotL_len (n : Nat) (t : List Int) : (rotL n t).length = n * n := permL_len _ _ _
theorem flipL_len (n : Nat) (t : List Int) : (flipL n t).length = n * n := permL_len _ _ _
theorem turnL_len (n how : Nat) (t : List Int) : (turnL n how t).length = n * n := permL_len _ _ _
theorem rots_spins {n : Nat} : ∀ (k : Nat) {t : List Int}, t.length = n * n → rotsL n k t = permL n (spins n k) t
  | 0, t, h => (permL_id h).symm
  | k + 1, t, h => by
    rw [rotsL, rots_spins k (rotL_len n t), rotL, permL_comp t (fun p hp => spins_in k hp)]
    exact permL_congr t fun p _ => spins_comm k p
theorem turn_is {n how : Nat} {t : List Int} (h : t.length = n * n) : rotsL n (how % 4) (if 4 ≤ how then flipL n t else t) = turnL n how t := by
  by_cases h4 : 4 ≤ how
  · rw [if_pos h4, rots_spins _ (flipL_len n t), flipL, permL_comp t (fun p hp => spins_in _ hp)]
    refine permL_congr t fun p _ => ?_
    rw [fromT, if_pos h4]
  · rw [if_neg h4, rots_spins _ h]
    refine permL_congr t fun p _ => ?_
    rw [fromT, if_neg h4]

/-- Of the first k places each stands where it goes to. -/
def PutTo (n k : Nat) (pos : Nat × Nat → Nat) (t u : List Int) : Prop := u.length = n * n ∧ ∀ x y, x < n → y < n → y * n + x < k → u.getD (pos (x, y)) 0 = t.getD (y * n + x) 0
theorem PutTo.start {n : Nat} {pos : Nat × Nat → Nat} {t u : List Int} (h : u.length = n * n) : PutTo n 0 pos t u := ⟨h, fun _ _ _ _ h => by omega⟩
theorem PutTo.step {n x y : Nat} {pos : Nat × Nat → Nat} {t u : List Int} (h : PutTo n (y * n + x) pos t u) (hx : x < n) (hy : y < n) (hp : pos (x, y) < n * n)
    (hi : ∀ x' y', x' < n → y' < n → pos (x', y') = pos (x, y) → x' = x ∧ y' = y) : PutTo n (y * n + x + 1) pos t (u.set (pos (x, y)) (t.getD (y * n + x) 0)) := by
  obtain ⟨hl, h⟩ := h
  refine ⟨by rw [List.length_set]; exact hl, fun x' y' hx' hy' hlt => ?_⟩
  by_cases e : pos (x', y') = pos (x, y)
  · obtain ⟨rfl, rfl⟩ := hi x' y' hx' hy' e
    simp [List.getD, hl, hp]
  · have hne : ¬ y' * n + x' = y * n + x := by
      intro e2
      have a := at_sq (p := (x', y')) ⟨hx', hy'⟩
      have b := at_sq (p := (x, y)) ⟨hx, hy⟩
      simp only at a b
      rw [e2] at a
      exact e (by rw [← a.2.1, ← a.2.2, b.2.1, b.2.2])
    rw [← h x' y' hx' hy' (by omega)]
    have : ¬ pos (x, y) = pos (x', y') := fun h => e h.symm
    simp [List.getD, this]
theorem PutTo.done {n : Nat} {pos : Nat × Nat → Nat} {f : Nat × Nat → Nat × Nat} {t u : List Int} (h : PutTo n (n * n) pos t u) (hf : ∀ p, InSq n p → InSq n (f p)) (hp : ∀ p, InSq n p → pos (f p) = p.2 * n + p.1) : u = permL n f t := by
  obtain ⟨hl, h⟩ := h
  refine list_getD (by rw [permL_len, hl]) fun a ha => ?_
  rw [hl] at ha
  obtain ⟨h1, h2⟩ := sq_at ha
  have h3 := hf _ h1
  have h4 := h _ _ h3.1 h3.2 (at_sq h3).1
  have h5 := hp _ h1
  rw [permL_at ha, ← h4]
  have h6 : pos ((f (a % n, a / n)).1, (f (a % n, a / n)).2) = a := h5.trans h2
  rw [h6]
end Go.Proofs.YtoobkajilbmdhaaDoor

namespace Go.Proofs.YtoobkajilbmdhaaDoor
open Go.RowKit
set_option linter.unusedVariables false

theorem permL_mem {n : Nat} {f : Nat × Nat → Nat × Nat} {t : List Int} (ht : t.length = n * n) (hf : ∀ p, InSq n p → InSq n (f p)) : ∀ x ∈ permL n f t, x ∈ t := by
  intro x hx
  simp only [permL, List.mem_map, List.mem_range] at hx
  obtain ⟨a, ha, rfl⟩ := hx
  have h1 := (at_sq (hf _ (sq_at ha).1)).1
  rw [← ht] at h1
  rw [show t.getD ((f (a % n, a / n)).2 * n + (f (a % n, a / n)).1) 0 = t[(f (a % n, a / n)).2 * n + (f (a % n, a / n)).1] by simp [List.getD, h1]]
  exact List.getElem_mem h1
theorem right_sn {side : Int} {t : List Int} (h : gridRight side t = true) : ∃ n : Nat, side = n ∧ (n = 1 ∨ n = 2 ∨ n = 4 ∨ n = 8) ∧ t.length = n * n := by
  obtain ⟨hs, hl, _⟩ := right_parts h
  rcases (sideOk_iff side).1 hs with rfl | rfl | rfl | rfl
  · exact ⟨1, rfl, by omega, by omega⟩
  · exact ⟨2, rfl, by omega, by omega⟩
  · exact ⟨4, rfl, by omega, by omega⟩
  · exact ⟨8, rfl, by omega, by omega⟩
theorem perm_right {side : Int} {n : Nat} {f : Nat × Nat → Nat × Nat} {t : List Int} (h : gridRight side t = true) (hn : side = n) (hf : ∀ p, InSq n p → InSq n (f p)) : gridRight side (permL n f t) = true := by
  obtain ⟨m, hm, _, hl⟩ := right_sn h
  obtain rfl : n = m := by omega
  have h1 := permL_mem hl hf
  simp only [gridRight, Bool.and_eq_true, beq_iff_eq, List.all_eq_true, permL_len] at h ⊢
  refine ⟨⟨h.1.1, by rw [← hl]; exact h.1.2⟩, fun x hx => h.2 x (h1 x hx)⟩
theorem turn_right {side : Int} {t : List Int} (h : gridRight side t = true) (how : Nat) : gridRight side (turnL side.toNat how t) = true := by
  obtain ⟨m, hm, _, hl⟩ := right_sn h
  exact perm_right h (by omega) fun p hp => fromT_in hp
def turnOk (side : Int) (l : List Int) (how : Int) : Bool := gridRight side l && inIs how 0 7
def turnSide (side : Int) (l : List Int) (how : Int) : Int := if turnOk side l how then side else 0
def turnTiles (side : Int) (l : List Int) (how : Int) : List Int := if turnOk side l how then turnL side.toNat how.toNat l else []
def turnCode (side : Int) (l : List Int) (how : Int) : Int := if turnOk side l how then 0 else 1
theorem turnTiles_len (side : Int) (l : List Int) (how : Int) : (turnTiles side l how).length ≤ 64 := by
  unfold turnTiles
  split
  · next h =>
    rw [turnOk, Bool.and_eq_true] at h
    obtain ⟨n, rfl, hn, _⟩ := right_sn h.1
    rw [Int.toNat_natCast, turnL_len]
    rcases hn with rfl | rfl | rfl | rfl <;> decide
  · simp
theorem turn_bad {side how : Int} {l : List Int} (h : turnOk side l how = false) : turnSide side l how = 0 ∧ turnTiles side l how = [] ∧ turnCode side l how = 1 := by
  simp [turnSide, turnTiles, turnCode, h]
theorem turn_good {side how : Int} {l : List Int} (h : turnOk side l how = true) : turnSide side l how = side ∧ turnTiles side l how = turnL side.toNat how.toNat l ∧ turnCode side l how = 0 := by
  simp [turnSide, turnTiles, turnCode, h]
end Go.Proofs.YtoobkajilbmdhaaDoor

namespace Go.Proofs.YtoobkajilbmdhaaDoor
open Go.RowKit
set_option linter.unusedVariables false

/-- What NodeTurn answers. -/
def turnP (l : List Nd) (rt side how : Int) : Int × Int × List Nd :=
  if (getP l rt side).1 = 0 then
    (if turnCode side (getP l rt side).2.2 how = 0 then putR l side.toNat (turnTiles side (getP l rt side).2.2 how) else (turnCode side (getP l rt side).2.2 how, 0, []))
  else ((getP l rt side).1, 0, [])
theorem turnP_len (l : List Nd) (rt side how : Int) : (turnP l rt side how).2.2.length ≤ 200 := by
  unfold turnP
  split
  · split
    · exact putR_len _ _ _
    · simp
  · simp
theorem turn_sq {side : Int} {t : List Int} (h : gridRight side t = true) : t.length = side.toNat * side.toNat := by
  obtain ⟨n, rfl, _, hl⟩ := right_sn h
  rw [hl, Int.toNat_natCast]
theorem turn_ok {side how : Int} {l : List Int} (hc : turnCode side l how = 0) : turnOk side l how = true := by
  unfold turnCode at hc
  split at hc
  · next h => exact h
  · cases hc
theorem turn_right2 {side how : Int} {l : List Int} (hc : turnCode side l how = 0) : turnSide side l how = side ∧ gridRight side (turnTiles side l how) = true := by
  have h := turn_ok hc
  have h2 := h
  rw [turnOk, Bool.and_eq_true] at h2
  refine ⟨by rw [turnSide, if_pos h], ?_⟩
  rw [turnTiles, if_pos h]
  exact turn_right h2.1 _
end Go.Proofs.YtoobkajilbmdhaaDoor

namespace Go.Proofs.YtoobkajilbmdhaaDoor
open Go.RowKit
set_option linter.unusedVariables false
set_option linter.unusedSimpArgs false

/-- The numbers that lead to a place's two indexes: a row's turned one and a row's own. -/
theorem turn_idx {n x y : Nat} (hn : n = 1 ∨ n = 2 ∨ n = 4 ∨ n = 8) (hx : x < n) (hy : y < n) : ∃ p q r T s S : Nat, (T = x * n + (n - 1 - y) ∧ S = y * n + x ∧ T < n * n ∧ S < n * n) ∧
    IntKind.i64.wrap ((x : Int) * (n : Int)) = (p : Int) ∧ IntKind.i64.wrap ((p : Int) + (n : Int)) = (q : Int) ∧ IntKind.i64.wrap ((q : Int) - 1) = (r : Int) ∧ IntKind.i64.wrap ((r : Int) - (y : Int)) = (T : Int) ∧
    IntKind.i64.wrap ((y : Int) * (n : Int)) = (s : Int) ∧ IntKind.i64.wrap ((s : Int) + (x : Int)) = (S : Int) := by
  refine ⟨x * n, x * n + n, x * n + n - 1, x * n + (n - 1 - y), y * n, y * n + x, ?_⟩
  rcases hn with rfl | rfl | rfl | rfl <;>
    refine ⟨⟨rfl, rfl, by omega, by omega⟩, ?_, ?_, ?_, ?_, ?_, ?_⟩ <;>
    (rw [IntWalk.i64_in _ (by omega)]; omega)
theorem flip_idx {n x y : Nat} (hn : n = 1 ∨ n = 2 ∨ n = 4 ∨ n = 8) (hx : x < n) (hy : y < n) : ∃ p q r T S : Nat, (T = y * n + (n - 1 - x) ∧ S = y * n + x ∧ T < n * n ∧ S < n * n) ∧
    IntKind.i64.wrap ((y : Int) * (n : Int)) = (p : Int) ∧ IntKind.i64.wrap ((p : Int) + (n : Int)) = (q : Int) ∧ IntKind.i64.wrap ((q : Int) - 1) = (r : Int) ∧ IntKind.i64.wrap ((r : Int) - (x : Int)) = (T : Int) ∧
    IntKind.i64.wrap ((p : Int) + (x : Int)) = (S : Int) := by
  refine ⟨y * n, y * n + n, y * n + n - 1, y * n + (n - 1 - x), y * n + x, ?_⟩
  rcases hn with rfl | rfl | rfl | rfl <;>
    refine ⟨⟨rfl, rfl, by omega, by omega⟩, ?_, ?_, ?_, ?_, ?_⟩ <;>
    (rw [IntWalk.i64_in _ (by omega)]; omega)
def posT (n : Nat) (p : Nat × Nat) : Nat := p.1 * n + (n - 1 - p.2)
def posF (n : Nat) (p : Nat × Nat) : Nat := p.2 * n + (n - 1 - p.1)
theorem posT_inj {n x y : Nat} (hn : n = 1 ∨ n = 2 ∨ n = 4 ∨ n = 8) (hx : x < n) (hy : y < n) : ∀ x' y', x' < n → y' < n → posT n (x', y') = posT n (x, y) → x' = x ∧ y' = y := by
  intro x' y' hx' hy' h
  simp only [posT] at h
  rcases hn with rfl | rfl | rfl | rfl <;> omega
theorem posF_inj {n x y : Nat} (hn : n = 1 ∨ n = 2 ∨ n = 4 ∨ n = 8) (hx : x < n) (hy : y < n) : ∀ x' y', x' < n → y' < n → posF n (x', y') = posF n (x, y) → x' = x ∧ y' = y := by
  intro x' y' hx' hy' h
  simp only [posF] at h
  rcases hn with rfl | rfl | rfl | rfl <;> omega
theorem put_turned {n : Nat} {t u : List Int} (h : PutTo n (n * n) (posT n) t u) : u = rotL n t :=
  h.done (fun p hp => spinIn hp) fun p hp => by
    obtain ⟨h1, h2⟩ := hp
    simp only [posT, spin]
    rw [show n - 1 - (n - 1 - p.1) = p.1 by omega]
theorem put_flipped {n : Nat} {t u : List Int} (h : PutTo n (n * n) (posF n) t u) : u = flipL n t :=
  h.done (fun p hp => flip_in hp) fun p hp => by
    obtain ⟨h1, h2⟩ := hp
    simp only [posF, flipX]
    rw [show n - 1 - (n - 1 - p.1) = p.1 by omega]
theorem put_row {n y x : Nat} {pos : Nat × Nat → Nat} {t u : List Int} (h : PutTo n (y * n + x) pos t u) (hx : ¬ x < n) (hx2 : x ≤ n) : PutTo n ((y + 1) * n) pos t u := by
  obtain rfl : x = n := by omega
  rw [Nat.add_mul, Nat.one_mul]
  exact h
theorem put_all {n y : Nat} {pos : Nat × Nat → Nat} {t u : List Int} (h : PutTo n (y * n) pos t u) (hy : ¬ y < n) (hy2 : y ≤ n) : PutTo n (n * n) pos t u := by
  obtain rfl : y = n := by omega
  exact h

/-- While a map is turned: its box, its row, the box of what is to be handed back, the copy's box o and row g. -/
structure QI (w : World) (n : Nat) (A : Option Addr) (c m W o g c' : Nat) (t : List Int) (wr : World) (u : List Int) : Prop where
  inn : GB wr w.heap.size n (.slice A m c)
  src : RI wr W A t
  res : GB wr (w.heap.size + 1) 0 (.slice none 0 0)
  cpy : GB wr o n (.slice (some ⟨g, 0, none⟩) m c')
  own : OwnI 2 .i64 wr W (.slice (some ⟨g, 0, none⟩) m c') u
  bel : Below w.heap.size w wr
  siz : w.heap.size + 1 < W ∧ W ≤ o ∧ W ≤ g ∧ g ≠ o ∧ o < wr.heap.size
theorem QI.store {w : World} {n : Nat} {A : Option Addr} {c m W o g c' : Nat} {t : List Int} {wr : World} {u : List Int} (h : QI w n A c m W o g c' t wr u) (j : Nat) (v : Int) : QI w n A c m W o g c' t (wr.setCell ⟨g, j, none⟩ (.int .i64 v)) (u.set j v) := by
  obtain ⟨h1, h2, h3, h4, h5⟩ := h.siz
  exact ⟨h.inn.far (by show g ≠ _; omega) _, h.src.below ((Below.refl _ _).setCell h3 _), h.res.far (by show g ≠ _; omega) _, h.cpy.far (by show g ≠ _; omega) _, (h.own.store v).1, h.bel.setCell (by show w.heap.size ≤ g; omega) _, h1, h2, h3, h4, by simpa [World.setCell] using h5⟩
theorem QI.drew {w : World} {n : Nat} {A : Option Addr} {c m W o g c' : Nat} {t : List Int} {wr : World} {u : List Int} (h : QI w n A c m W o g c' t wr u) : QI w n A c m W o g c' t wr.drew u :=
  by
  obtain ⟨h1, h2, h3, h4, h5⟩ := h.siz
  have hd : Below wr.heap.size wr wr.drew := (Below.refl _ _).drew
  exact ⟨h.inn.below hd (by omega), h.src.below (Below.refl _ _).drew, h.res.below hd (by omega), h.cpy.below hd h5, h.own.drew, h.bel.drew, h.siz⟩
/-- The copy has been made. -/
theorem QI.made {w w1 w2 : World} {n : Nat} {A : Option Addr} {c m g c' : Nat} {t : List Int} (hi : GB w1 w.heap.size n (.slice A m c)) (hr : GB w1 (w.heap.size + 1) 0 (.slice none 0 0)) (hs : RI w1 w1.heap.size A t) (hb : Below w.heap.size w w1) (hz : w.heap.size + 1 < w1.heap.size)
    (ho : OwnI 2 .i64 w2 w1.heap.size (.slice (some ⟨g, 0, none⟩) m c') t) (hb2 : Below w1.heap.size w1 w2) :
    QI w n A c m w1.heap.size w2.heap.size g c' t (w2.alloc (.cells #[.int .i64 n, .slice (some ⟨g, 0, none⟩) m c'] 28)) t := by
  have ha : Below w2.heap.size w2 (w2.alloc (.cells #[.int .i64 n, .slice (some ⟨g, 0, none⟩) m c'] 28)) := (Below.refl _ _).alloc (Nat.le_refl _) _
  have hab := hb2.trans (ha.mono hb2.size)
  have hg := World.ownsRow.lt ho g rfl
  exact ⟨hi.below hab (by omega), hs.below hab, hr.below hab hz, GB.made _ _ _ _, ho.alloc _, hb.trans (hab.mono hb.size), hz, hb2.size, hg.1, Nat.ne_of_lt hg.2, by simp⟩

theorem own_apart {w : World} {base n c : Nat} {A : Option Addr} {l : List Int} {a : Addr} (h : OwnI 2 .i64 w base (.slice A n c) l) (hne : ∀ g, A = some g → g.block ≠ a.block) (u : Value) : OwnI 2 .i64 (w.setCell a u) base (.slice A n c) l :=
  World.ownsRow.kept h (row := some a.block) ⟨rfl, rfl, rfl, by simp, fun k _ hk => heap_setCell_other w a k u (fun e => hk (by rw [e]))⟩ (by
    cases A with
    | none => exact .inl rfl
    | some g =>
      refine .inr fun e => ?_
      have e2 : some g.block = some a.block := e
      exact hne g rfl (Option.some.inj e2))

set_option maxRecDepth 100000 in
set_option maxHeartbeats 1000000 in
theorem mQuarters_any (n k base : Nat) (hn : n = 1 ∨ n = 2 ∨ n = 4 ∨ n = 8) (hk : k ≤ 1000) (A : Option Addr) (c : Nat) (t : List Int) (w : World) (ho : OwnI 2 .i64 w base (.slice A t.length c) t) (hb : base ≤ w.heap.size) (hA : ∀ g, A = some g → g.block < w.heap.size) (hl : t.length = n * n) :
    Calls Tryd.prog 109 #[.agg #[.int .i64 n, .slice A t.length c], .int .i64 k] w fun e w' => ∃ A' c', e = .returned (.agg #[.int .i64 n, .slice A' t.length c']) ∧ OwnI 2 .i64 w' base (.slice A' t.length c') (rotsL n k t) ∧ Below w.heap.size w w' := by
  have HO0 := Lib.hid ho
  have HLn := Lib.hid hl
  have hn8 : n ≤ 8 := by rcases hn with rfl | rfl | rfl | rfl <;> omega
  have HAP : Hid (∀ g, A = some g → g.block ≠ w.heap.size + 1) := by
    show ∀ g, _
    intro g e
    have := hA g e
    omega
  have h64 : t.length ≤ 64 := by rcases hn with rfl | rfl | rfl | rfl <;> omega
  have h0 : 0 < t.length := by rcases hn with rfl | rfl | rfl | rfl <;> omega
  have HN := Lib.hid hn
  have hW0 : Hid (GB ((w.alloc (.cells #[.int .i64 n, .slice A t.length c] 28)).alloc (.cells #[.int .i64 0, .slice none 0 0] 28)) w.heap.size n (.slice A t.length c) ∧ GB ((w.alloc (.cells #[.int .i64 n, .slice A t.length c] 28)).alloc (.cells #[.int .i64 0, .slice none 0 0] 28)) (w.heap.size + 1) 0 (.slice none 0 0) ∧ Below w.heap.size w ((w.alloc (.cells #[.int .i64 n, .slice A t.length c] 28)).alloc (.cells #[.int .i64 0, .slice none 0 0] 28))) := by
    refine ⟨(GB.made w n (.slice A t.length c) 28).below ((Below.refl _ _).alloc (B := w.heap.size + 1) (by simp) _) (by omega), ?_, ((Below.refl _ _).alloc (Nat.le_refl _) _).alloc (by simp) _⟩
    have := GB.made (w.alloc (.cells #[.int .i64 n, .slice A t.length c] 28)) 0 (.slice none 0 0) 28
    rw [alloc_size] at this
    exact this
  have HOW := Lib.hid ((ho.alloc (.cells #[.int .i64 n, .slice A t.length c] 28)).alloc (.cells #[.int .i64 0, .slice none 0 0] 28))
  clear ho hl hn hA
  go_enter Tryd.func109, Tryd.ntmps109
  go_wp2
  go_loopw [1] (fun i wr => ∃ (j : Nat) (A : Option Addr) (c : Nat) (u : List Int), i = .int .i64 j ∧ j ≤ k ∧ GB wr w.heap.size n (.slice A t.length c) ∧ GB wr (w.heap.size + 1) 0 (.slice none 0 0) ∧ OwnI 2 .i64 wr base (.slice A t.length c) u ∧ Below w.heap.size w wr ∧ w.heap.size + 1 < wr.heap.size ∧ Hid (∀ g, A = some g → g.block ≠ w.heap.size + 1) ∧ Hid (u.length = t.length) ∧ Hid (rotsL n j u = rotsL n k t)) (fun i _ => (intOf i).toNat)
  case atStart => exact ⟨k, A, c, t, rfl, Nat.le_refl _, hW0.out.1, hW0.out.2.1, HOW.out, hW0.out.2.2, by simp, HAP, rfl, rfl⟩
  case round =>
    obtain ⟨j, A1, c1, u, rfl, hj, hgb, hgr, how, hbel, hsz, HNE, HU, HR⟩ := hrel
    clear hW0 HOW
    cases j with
    | zero =>
      obtain ⟨g0, g1, f0, f1⟩ := hgb
      obtain ⟨r0, r1, s0, s1⟩ := hgr
      have HW := Lib.hid how
      have HB := Lib.hid hbel
      have HE : Hid (u = rotsL n k t) := HR.out
      clear how hbel
      go_wp2
      refine bodyPost_ret (v := .agg #[.int .i64 n, .slice A1 t.length c1]) (by simp [results, Tryd.results109, go_sem, r0, r1]) rfl ⟨A1, c1, rfl, ?_, (HB.out.setCell (by simp) _).setCell (by simp) _⟩
      rw [← HE.out]
      exact own_apart (own_apart HW.out HNE.out _) HNE.out _
    | succ j =>
      have HGB := Lib.hid hgb
      have HGR := Lib.hid hgr
      have HB := Lib.hid hbel
      have HRI := Lib.hid how.ri
      have hjp : (0 : Int) < ((j + 1 : Nat) : Int) := by omega
      have hwj : wrap64 (((j + 1 : Nat) : Int) - 1) = (j : Int) := by rw [wrap64_in (by omega) (by omega)]; omega
      obtain ⟨g0, g1, f0, f1⟩ := hgb
      clear hgr hbel how
      generalize hJ : ((j + 1 : Nat) : Int) = J at *
      have HJ := Lib.hid hJ
      clear hJ
      go_wp2_with fail
      have hcp := mCopy_any n A1 c1 u wr HRI.out (by rw [HU.out]; omega) (by rw [HU.out]; omega)
      rw [HU.out] at hcp
      refine hcp.mono ?_
      rintro e w2 ⟨A2, c2, rfl, ho2, hb2⟩
      obtain ⟨g, rfl, hg1, hg2, _⟩ := ho2.at_ (j := 0) (by rw [HU.out]; exact h0)
      have HI0 := Lib.hid (QI.made HGB.out HGR.out HRI.out HB.out hsz ho2 hb2)
      clear ho2 hb2 hcp g0 g1 f0 f1 HGB HGR HB hg1 hg2
      go_wp2
      generalize w2.alloc (.cells #[.int .i64 n, .slice (some ⟨g, 0, none⟩) t.length c2] 28) = w3 at *
      generalize w2.heap.size = o at *
      generalize wr.heap.size = W at *
      have HP0 : Hid (PutTo n 0 (posT n) u u) := PutTo.start (by rw [HU.out, HLn.out])
      go_loopw [6] (fun i wr => ∃ (y : Nat) (v : List Int), i = .int .i64 y ∧ y ≤ n ∧ QI w n A1 c1 t.length W o g c2 u wr v ∧ Hid (PutTo n (y * n) (posT n) u v)) (fun i _ => n - (intOf i).toNat)
      case atStart => exact ⟨0, u, rfl, Nat.zero_le _, HI0.out, by rw [Nat.zero_mul]; exact HP0⟩
      case round =>
        obtain ⟨y, v, rfl, hy, hq, HP⟩ := hrel
        have HQ := Lib.hid hq
        clear HI0 HP0
        obtain ⟨⟨a0, a1, _, _⟩, _, _, ⟨y0, y1, _, _⟩, _, _, z1, z2, z3, z4, z5⟩ := hq
        by_cases hyn : y < n
        · have hyI : (y : Int) < (n : Int) := by omega
          go_wp2
          go_loopw [7] (fun i wr => ∃ (x : Nat) (v : List Int), i = .int .i64 x ∧ x ≤ n ∧ QI w n A1 c1 t.length W o g c2 u wr v ∧ Hid (PutTo n (y * n + x) (posT n) u v)) (fun i _ => n - (intOf i).toNat)
          case atStart => exact ⟨0, v, rfl, Nat.zero_le _, HQ.out, by rw [Nat.add_zero]; exact HP⟩
          case round =>
            obtain ⟨x, v, rfl, hx, hq, HP2⟩ := hrel
            have HQ2 := Lib.hid hq
            clear HQ HP a0 a1 y0 y1
            obtain ⟨⟨a0, a1, _, _⟩, hsrc, _, ⟨y0, y1, _, _⟩, hown, _, _, _, _, _, _⟩ := hq
            by_cases hxn : x < n
            · have hxI : (x : Int) < (n : Int) := by omega
              have HST := Lib.hid (fun hp => HP2.out.step hxn hyn hp (posT_inj HN.out hxn hyn))
              obtain ⟨p, q, r, T, s, S, ⟨eT, eS, hT, hS⟩, m1, m2, m3, m4, m5, m6⟩ := turn_idx HN.out hxn hyn
              have hST : S < u.length := by rw [HU.out, HLn.out]; exact hS
              have hTT : T < v.length := by rw [HP2.out.1]; exact hT
              obtain ⟨b, off, rfl, hbl, hcs⟩ := hsrc.at_ hST
              obtain ⟨g', eg, _, _, hcg, hfg⟩ := hown.at_ hTT
              cases eg
              have HS := Lib.hid (HQ2.out.drew.store T u[S])
              have HST2 : Hid (PutTo n (y * n + (x + 1)) (posT n) u (v.set T u[S])) := by
                have h1 := HST.out (by show posT n (x, y) < n * n; rw [show posT n (x, y) = T from eT.symm]; exact hT)
                rw [show posT n (x, y) = T from eT.symm, ← eS, show u.getD S 0 = u[S] by simp [List.getD, hST]] at h1
                rw [← Nat.add_assoc, ← eS]
                exact h1
              have hSI : (S : Int) < (t.length : Int) := by rw [HLn.out]; omega
              have hTI : (T : Int) < (t.length : Int) := by rw [HLn.out]; omega
              have hS0 : (0 : Int) ≤ (S : Int) := by omega
              have hT0 : (0 : Int) ≤ (T : Int) := by omega
              have hneb : ¬ b = g := by omega
              generalize u[S] = val at *
              clear HST eT eS hT hS hsrc hown HP2
              go_wp2_with fail
              go_region
              go_wp2
              go_roundw
              case rel => exact ⟨x + 1, _, by go_num, by omega, HS.out, HST2⟩
              case measure => simp [intOf]; omega
            · have HR2 := Lib.hid (put_row HP2.out hxn hx)
              clear hsrc hown
              go_wp2
              go_roundw
              case rel => exact ⟨y + 1, v, by go_num, by omega, HQ2.out, HR2⟩
              case measure => simp [intOf]; omega
        · have HV : Hid (v = rotL n u) := put_turned (put_all HP.out hyn hy)
          obtain rfl := HV.out
          go_wp2
          go_roundw
          case rel =>
            have hq := HQ.out
            refine ⟨j, some ⟨g, 0, none⟩, c2, rotL n u, by go_num, by omega, (hq.inn.set0 n).set1 _, (hq.res.far (by show w.heap.size ≠ _; omega) _).far (by show w.heap.size ≠ _; omega) _, OwnI.lower (by omega) (OwnI.set_below (by show w.heap.size < _; omega) _ (OwnI.set_below (by show w.heap.size < _; omega) _ hq.own)), (hq.bel.setCell (by simp) _).setCell (by simp) _, ?_, ?_, ?_, HR⟩
            · have := hq.siz
              simp [World.setCell]
              omega
            · show ∀ g', _
              intro g' e
              cases e
              show g ≠ _
              omega
            · show _ = _
              rw [rotL_len, HLn.out]
          case measure =>
            have := HJ.out
            simp only [intOf, hwj]
            simp
            omega
set_option maxRecDepth 100000 in
set_option maxHeartbeats 1000000 in
theorem mTurned_any (n how : Nat) (hn : n = 1 ∨ n = 2 ∨ n = 4 ∨ n = 8) (hh : how ≤ 7) (A : Option Addr) (c : Nat) (t : List Int) (w : World) (h : RI w w.heap.size A t) (hl : t.length = n * n) :
    Calls Tryd.prog 83 #[.agg #[.int .i64 n, .slice A t.length c], .int .i64 how] w fun e w' => ∃ A' c', e = .returned (.agg #[.int .i64 n, .slice A' t.length c']) ∧ OwnI 2 .i64 w' w.heap.size (.slice A' t.length c') (turnL n how t) ∧ Below w.heap.size w w' := by
  have hn8 : n ≤ 8 := by rcases hn with rfl | rfl | rfl | rfl <;> omega
  have HLn := Lib.hid hl
  have h64 : t.length ≤ 64 := by rcases hn with rfl | rfl | rfl | rfl <;> omega
  have h0 : 0 < t.length := by rcases hn with rfl | rfl | rfl | rfl <;> omega
  have HN := Lib.hid hn
  have HTI := Lib.hid (turn_is (n := n) (how := how) hl)
  have hW0 : Hid (GB ((w.alloc (.cells #[.int .i64 n, .slice A t.length c] 28)).alloc (.cells #[.int .i64 0, .slice none 0 0] 28)) w.heap.size n (.slice A t.length c) ∧ GB ((w.alloc (.cells #[.int .i64 n, .slice A t.length c] 28)).alloc (.cells #[.int .i64 0, .slice none 0 0] 28)) (w.heap.size + 1) 0 (.slice none 0 0) ∧ Below w.heap.size w ((w.alloc (.cells #[.int .i64 n, .slice A t.length c] 28)).alloc (.cells #[.int .i64 0, .slice none 0 0] 28))) := by
    refine ⟨(GB.made w n (.slice A t.length c) 28).below ((Below.refl _ _).alloc (B := w.heap.size + 1) (by simp) _) (by omega), ?_, ((Below.refl _ _).alloc (Nat.le_refl _) _).alloc (by simp) _⟩
    have := GB.made (w.alloc (.cells #[.int .i64 n, .slice A t.length c] 28)) 0 (.slice none 0 0) 28
    rw [alloc_size] at this
    exact this
  have HRI := Lib.hid ((h.below hW0.out.2.2).mono hW0.out.2.2.size)
  have hsz : w.heap.size + 1 < ((w.alloc (.cells #[.int .i64 n, .slice A t.length c] 28)).alloc (.cells #[.int .i64 0, .slice none 0 0] 28)).heap.size := by simp
  have HSZ := Lib.hid hsz
  clear h hl hn hsz
  obtain ⟨m, hm⟩ : ∃ m, m = how % 4 := ⟨_, rfl⟩
  have hm1 : (how : Int).tmod 4 = (m : Int) := by rw [Int.tmod_eq_emod_of_nonneg (by omega)]; omega
  have hm2 : (how : Int) % 4 = (m : Int) := by omega
  have hm4 : m ≤ 1000 := by omega
  have HM := Lib.hid hm
  clear hm
  go_enter Tryd.func83, Tryd.ntmps83
  go_wp2_with fail
  refine (mCopy_any n A c t _ HRI.out (by omega) h0).mono ?_
  rintro e w2 ⟨A2, c2, rfl, ho2, hb2⟩
  obtain ⟨g, rfl, hg1, hg2, _⟩ := ho2.at_ (j := 0) h0
  have HI0 := Lib.hid (QI.made hW0.out.1 hW0.out.2.1 HRI.out hW0.out.2.2 HSZ.out ho2 hb2)
  clear ho2 hb2 hg1 hg2
  generalize ((w.alloc (.cells #[.int .i64 n, .slice A t.length c] 28)).alloc (.cells #[.int .i64 0, .slice none 0 0] 28)).heap.size = W at *
  clear hW0 HRI HSZ
  by_cases h4 : 4 ≤ how
  · have hd : decide ((4 : Int) ≤ (how : Int)) = true := decide_eq_true (by omega)
    have HT2 : Hid (rotsL n m (flipL n t) = turnL n how t) := by
      have := HTI.out
      rw [if_pos h4, ← HM.out] at this
      exact this
    clear h4 HTI
    go_wp2
    generalize w2.alloc (.cells #[.int .i64 n, .slice (some ⟨g, 0, none⟩) t.length c2] 28) = w3 at *
    generalize w2.heap.size = o at *
    have HP0 : Hid (PutTo n 0 (posF n) t t) := PutTo.start HLn.out
    go_loopw [6] (fun i wr => ∃ (y : Nat) (v : List Int), i = .int .i64 y ∧ y ≤ n ∧ QI w n A c t.length W o g c2 t wr v ∧ Hid (PutTo n (y * n) (posF n) t v)) (fun i _ => n - (intOf i).toNat)
    case atStart => exact ⟨0, t, rfl, Nat.zero_le _, HI0.out, by rw [Nat.zero_mul]; exact HP0⟩
    case round =>
      obtain ⟨y, v, rfl, hy, hq, HP⟩ := hrel
      have HQ := Lib.hid hq
      clear HI0 HP0
      obtain ⟨⟨a0, a1, _, _⟩, _, ⟨r0, r1, s0, s1⟩, ⟨y0, y1, _, _⟩, _, _, z1, z2, z3, z4, z5⟩ := hq
      by_cases hyn : y < n
      · have hyI : (y : Int) < (n : Int) := by omega
        clear r0 r1 s0 s1
        go_wp2
        go_loopw [7] (fun i wr => ∃ (x : Nat) (v : List Int), i = .int .i64 x ∧ x ≤ n ∧ QI w n A c t.length W o g c2 t wr v ∧ Hid (PutTo n (y * n + x) (posF n) t v)) (fun i _ => n - (intOf i).toNat)
        case atStart => exact ⟨0, v, rfl, Nat.zero_le _, HQ.out, by rw [Nat.add_zero]; exact HP⟩
        case round =>
          obtain ⟨x, v, rfl, hx, hq, HP2⟩ := hrel
          have HQ2 := Lib.hid hq
          clear HQ HP a0 a1 y0 y1
          obtain ⟨⟨a0, a1, _, _⟩, hsrc, _, ⟨y0, y1, _, _⟩, hown, _, _, _, _, _, _⟩ := hq
          by_cases hxn : x < n
          · have hxI : (x : Int) < (n : Int) := by omega
            have HST := Lib.hid (fun hp => HP2.out.step hxn hyn hp (posF_inj HN.out hxn hyn))
            obtain ⟨p, q, r, T, S, ⟨eT, eS, hT, hS⟩, m1, m2, m3, m4, m5⟩ := flip_idx HN.out hxn hyn
            have hST : S < t.length := by rw [HLn.out]; exact hS
            have hTT : T < v.length := by rw [HP2.out.1]; exact hT
            obtain ⟨b, off, rfl, hbl, hcs⟩ := hsrc.at_ hST
            obtain ⟨g', eg, _, _, hcg, hfg⟩ := hown.at_ hTT
            cases eg
            have HS := Lib.hid (HQ2.out.drew.store T t[S])
            have HST2 : Hid (PutTo n (y * n + (x + 1)) (posF n) t (v.set T t[S])) := by
              have h1 := HST.out (by show posF n (x, y) < n * n; rw [show posF n (x, y) = T from eT.symm]; exact hT)
              rw [show posF n (x, y) = T from eT.symm, ← eS, show t.getD S 0 = t[S] by simp [List.getD, hST]] at h1
              rw [← Nat.add_assoc, ← eS]
              exact h1
            have hSI : (S : Int) < (t.length : Int) := by omega
            have hTI : (T : Int) < (t.length : Int) := by rw [HLn.out]; omega
            have hS0 : (0 : Int) ≤ (S : Int) := by omega
            have hT0 : (0 : Int) ≤ (T : Int) := by omega
            have hneb : ¬ b = g := by omega
            generalize t[S] = val at *
            clear HST eT eS hT hS hsrc hown HP2
            go_wp2_with fail
            go_region
            go_wp2
            go_roundw
            case rel => exact ⟨x + 1, _, by go_num, by omega, HS.out, HST2⟩
            case measure => simp [intOf]; omega
          · have HR2 := Lib.hid (put_row HP2.out hxn hx)
            clear hsrc hown
            go_wp2
            go_roundw
            case rel => exact ⟨y + 1, v, by go_num, by omega, HQ2.out, HR2⟩
            case measure => simp [intOf]; omega
      · have HV : Hid (v = flipL n t) := put_flipped (put_all HP.out hyn hy)
        obtain rfl := HV.out
        have hfl : (flipL n t).length = t.length := by rw [flipL_len, HLn.out]
        have hown := HQ.out.own
        have hlt := World.ownsRow.lt hown g rfl
        rw [← hfl] at hown
        have hK := mQuarters_any n m W HN.out hm4 (some ⟨g, 0, none⟩) c2 (flipL n t) wr hown (by omega) (fun g' e => by cases e; exact hlt.2) (flipL_len n t)
        rw [hfl, HT2.out] at hK
        have HK := Lib.hid hK
        clear hown hlt hK hfl r0 r1 s0 s1
        go_wp2_with fail
        refine HK.out.mono ?_
        rintro e w5 ⟨A5, c5, rfl, ho5, hb5⟩
        have HO5 := Lib.hid ho5
        have HB5 := Lib.hid (HQ.out.bel.trans (hb5.mono HQ.out.bel.size))
        obtain ⟨r0, r1, s0, s1⟩ := HQ.out.res.below hb5 (by omega)
        clear ho5 hb5
        go_wp2
        refine bodyPost_ret (v := .agg #[.int .i64 n, .slice A5 t.length c5]) (by simp [results, Tryd.results83, go_sem, r0, r1]) rfl ⟨A5, c5, rfl, ?_, (HB5.out.setCell (by simp) _).setCell (by simp) _⟩
        exact OwnI.lower (base := W) (by omega) (OwnI.set_below (by show w.heap.size + 1 < _; omega) _ (OwnI.set_below (by show w.heap.size + 1 < _; omega) _ HO5.out))
  · have hd : decide ((4 : Int) ≤ (how : Int)) = false := decide_eq_false (by omega)
    have HT2 : Hid (rotsL n m t = turnL n how t) := by
      have := HTI.out
      rw [if_neg h4, ← HM.out] at this
      exact this
    clear h4 HTI
    generalize hw3 : w2.alloc (.cells #[.int .i64 n, .slice (some ⟨g, 0, none⟩) t.length c2] 28) = w3 at HI0
    have hown := HI0.out.own
    have hlt := World.ownsRow.lt hown g rfl
    obtain ⟨_, _, _, ⟨y0, y1, _, _⟩, _, _, z1, z2, z3, z4, z5⟩ := HI0.out
    have HK := Lib.hid (mQuarters_any n m W HN.out hm4 (some ⟨g, 0, none⟩) c2 t w3 hown (by omega) (fun g' e => by cases e; exact hlt.2) HLn.out)
    rw [HT2.out] at HK
    have HW3 := Lib.hid hw3
    clear hown hlt y0 y1 hw3
    go_wp2_with fail
    rw [HW3.out]
    refine HK.out.mono ?_
    rintro e w5 ⟨A5, c5, rfl, ho5, hb5⟩
    have HO5 := Lib.hid ho5
    have HB5 := Lib.hid (HI0.out.bel.trans (hb5.mono HI0.out.bel.size))
    obtain ⟨r0, r1, s0, s1⟩ := HI0.out.res.below hb5 (by omega)
    clear ho5 hb5
    go_wp2
    refine bodyPost_ret (v := .agg #[.int .i64 n, .slice A5 t.length c5]) (by simp [results, Tryd.results83, go_sem, r0, r1]) rfl ⟨A5, c5, rfl, ?_, (HB5.out.setCell (by simp) _).setCell (by simp) _⟩
    exact OwnI.lower (base := W) (by omega) (OwnI.set_below (by show w.heap.size + 1 < _; omega) _ (OwnI.set_below (by show w.heap.size + 1 < _; omega) _ HO5.out))
end Go.Proofs.YtoobkajilbmdhaaDoor

namespace Go.Proofs.YtoobkajilbmdhaaDoor
open Go.RowKit
set_option linter.unusedVariables false
set_option linter.unusedSimpArgs false

set_option maxRecDepth 100000 in
set_option maxHeartbeats 1000000 in
theorem pFrom_any (n how x y : Nat) (hn : n = 1 ∨ n = 2 ∨ n = 4 ∨ n = 8) (hh : how ≤ 7) (hx : x < n) (hy : y < n) (w : World) :
    Calls Tryd.prog 110 #[.int .i64 n, .int .i64 how, .int .i64 x, .int .i64 y] w fun e w' => e = .returned (.tuple #[.int .i64 ((fromT n how (x, y)).1 : Nat), .int .i64 ((fromT n how (x, y)).2 : Nat)]) ∧ w = w' := by
  have hn8 : n ≤ 8 := by rcases hn with rfl | rfl | rfl | rfl <;> omega
  have HIN := Lib.hid (show InSq n (x, y) from ⟨hx, hy⟩)
  obtain ⟨m, hm⟩ : ∃ m, m = how % 4 := ⟨_, rfl⟩
  have hm1 : (how : Int).tmod 4 = (m : Int) := by rw [Int.tmod_eq_emod_of_nonneg (by omega)]; omega
  have hm2 : (how : Int) % 4 = (m : Int) := by omega
  have hm4 : m ≤ 3 := by omega
  have HM := Lib.hid hm
  have h1 : IntKind.i64.wrap ((n : Int) - 1) = ((n - 1 : Nat) : Int) := by rw [IntWalk.i64_in _ (by omega)]; omega
  have h2 : wrap64 ((n : Int) - 1) = ((n - 1 : Nat) : Int) := by rw [wrap64_in (by omega) (by omega)]; omega
  clear hm hx hy
  go_enter Tryd.func110, Tryd.ntmps110
  go_wp2
  go_loop [2, 3, 12] (fun a b i => ∃ (k p q : Nat), i = .int .i64 k ∧ a = .int .i64 p ∧ b = .int .i64 q ∧ k ≤ m ∧ Hid (spins n k (x, y) = (p, q))) (fun _ _ i => m - (intOf i).toNat)
  case atStart => exact ⟨0, x, y, rfl, rfl, rfl, Nat.zero_le _, rfl⟩
  case round =>
    obtain ⟨k, p, q, rfl, rfl, rfl, hk, HS⟩ := hrel
    have hin : InSq n (p, q) := by rw [← HS.out]; exact spins_in _ HIN.out
    obtain ⟨hp, hq⟩ := hin
    simp only at hp hq
    have h3 : IntKind.i64.wrap (((n - 1 : Nat) : Int) - (p : Int)) = ((n - 1 - p : Nat) : Int) := by rw [IntWalk.i64_in _ (by omega)]; omega
    have h4 : wrap64 (((n - 1 : Nat) : Int) - (p : Int)) = ((n - 1 - p : Nat) : Int) := by rw [wrap64_in (by omega) (by omega)]; omega
    by_cases hkm : k < m
    · have HS2 : Hid (spins n (k + 1) (x, y) = (q, n - 1 - p)) := by
        show _ = _
        rw [spins_next, HS.out]
        rfl
      generalize n - 1 - p = r at *
      generalize n - 1 = n1 at *
      go_wp2
      go_round
      case rel => exact ⟨k + 1, q, r, by go_num, rfl, rfl, by omega, HS2⟩
      case measure => simp [intOf]; omega
    · obtain rfl : k = m := by omega
      by_cases h7 : 4 ≤ how
      · have hd : decide ((4 : Int) ≤ (how : Int)) = true := decide_eq_true (by omega)
        have HR : Hid (fromT n how (x, y) = (n - 1 - p, q)) := by
          show _ = _
          rw [fromT, if_pos h7, ← HM.out, HS.out]
          rfl
        generalize n - 1 - p = r at *
        generalize n - 1 = n1 at *
        go_wp2
        refine bodyPost_ret (v := .tuple #[.int .i64 (r : Nat), .int .i64 (q : Nat)]) (by simp [results, Tryd.results110, go_sem]) rfl ⟨by rw [HR.out], rfl⟩
      · have hd : decide ((4 : Int) ≤ (how : Int)) = false := decide_eq_false (by omega)
        have HR : Hid (fromT n how (x, y) = (p, q)) := by
          show _ = _
          rw [fromT, if_neg h7, ← HM.out, HS.out]
        go_wp2
        refine bodyPost_ret (v := .tuple #[.int .i64 (p : Nat), .int .i64 (q : Nat)]) (by simp [results, Tryd.results110, go_sem]) rfl ⟨by rw [HR.out], rfl⟩
/-- While the program turns a map: its box, its row, the box of what is to be handed back, the turned one's box and row. -/
structure TuB (w : World) (n : Nat) (A : Option Addr) (c m o c' : Nat) (A' : Option Addr) (t : List Int) (wr : World) (u : List Int) : Prop where
  inn : GB wr w.heap.size n (.slice A m c)
  src : RI wr w.heap.size A t
  res : GO wr (w.heap.size + 1)
  cpy : GB wr o n (.slice A' u.length c')
  own : OwnI 2 .i64 wr (o + 1) (.slice A' u.length c') u
  bel : Below w.heap.size w wr
  siz : w.heap.size + 1 < o ∧ o < wr.heap.size
theorem TuB.keep {w : World} {n : Nat} {A : Option Addr} {c m o c' : Nat} {A' : Option Addr} {t : List Int} {wr wr' : World} {u : List Int} (h : TuB w n A c m o c' A' t wr u) (hd : Below wr.heap.size wr wr') : TuB w n A c m o c' A' t wr' u := by
  obtain ⟨h1, h2⟩ := h.siz
  exact ⟨h.inn.below hd (by omega), h.src.below (hd.mono h.bel.size), h.res.below hd (by omega), h.cpy.below hd h2, h.own.keep hd, h.bel.trans (hd.mono h.bel.size), h1, Nat.lt_of_lt_of_le h2 hd.size⟩
theorem turn_take {n how k : Nat} {t : List Int} (ht : t.length = n * n) (hk : k < n * n) {x y S : Nat} (hf : fromT n how (k % n, k / n) = (x, y)) (hS : S = y * n + x) (hS2 : S < t.length) : (turnL n how t).take (k + 1) = (turnL n how t).take k ++ [t[S]] := by
  have hl : k < (turnL n how t).length := by rw [turnL_len]; exact hk
  have h1 := permL_at (f := fromT n how) (t := t) hk
  rw [hf] at h1
  simp only at h1
  rw [← hS, show t.getD S 0 = t[S] by simp [List.getD, hS2]] at h1
  have h2 : (turnL n how t)[k] = t[S] := by rw [← h1]; simp [turnL, List.getD, permL_len, hk]
  rw [List.take_succ_eq_append_getElem hl, h2]
/-- From one append to the next. -/
theorem TuB.step {w : World} {n : Nat} {A : Option Addr} {c m o c' cap g : Nat} {A' : Option Addr} {t : List Int} {wr w2 : World} {u : List Int} {v : Int} (h : TuB w n A c m o c' A' t wr u) (ho : OwnI 2 .i64 w2 (o + 1) (.slice (some ⟨g, 0, none⟩) (u.length + 1) cap) (u ++ [v])) (hb : Below (o + 1) wr w2) :
    TuB w n A c m o cap (some ⟨g, 0, none⟩) t (w2.setCell ⟨o, 1, none⟩ (.slice (some ⟨g, 0, none⟩) (u.length + 1) cap)) (u ++ [v]) := by
  obtain ⟨h1, h2⟩ := h.siz
  have e : (u ++ [v]).length = u.length + 1 := by simp
  refine ⟨(h.inn.below hb (by omega)).far (by show o ≠ _; omega) _, (h.src.below (hb.mono (by omega))).below ((Below.refl _ _).setCell (by show w.heap.size ≤ o; omega) _), ?_, ?_, ?_, (h.bel.trans (hb.mono (by omega))).setCell (by show w.heap.size ≤ o; omega) _, h1, ?_⟩
  · have := h.res.below hb (by omega)
    exact this.far (by show o ≠ _; omega) _
  · rw [e]; exact (h.cpy.below hb (by omega)).set1 _
  · rw [e]; exact OwnI.set_below (by show o < _; omega) _ ho
  · have := hb.size
    simp [World.setCell]
    omega

set_option maxRecDepth 100000 in
set_option maxHeartbeats 1000000 in
theorem pTurn_any (side how : Int) (A : Option Addr) (c : Nat) (l : List Int) (w : World) (h : RI w w.heap.size A l) (hl : l.length ≤ 1000000000) :
    Calls Tryd.prog 84 #[.agg #[.int .i64 side, .slice A l.length c], .int .i64 how] w fun e w' => GOut w w' (turnSide side l how) (turnTiles side l how) (turnCode side l how) e := by
  have HF0 := Lib.hid (FB.made w side (.slice A l.length c))
  have H := Lib.hid h
  clear h
  have hRt := fun w h => pRight_any side A c l w h hl
  cases hr : gridRight side l
  · rw [hr] at hRt
    obtain ⟨e1, e2, e3⟩ := turn_bad (side := side) (how := how) (l := l) (by simp [turnOk, hr])
    rw [e1, e2, e3]
    clear hr e1 e2 e3
    go_enter Tryd.func84, Tryd.ntmps84
    go_wp2_with fail
    refine (hRt _ ((H.out.below HF0.out.bel).mono HF0.out.bel.size)).mono ?_
    rintro e w1 ⟨rfl, hb1⟩
    have HF1 := Lib.hid (HF0.out.below hb1)
    clear hb1
    obtain ⟨_, ⟨c0, c1, c2, f0, f1, f2⟩, _, hz⟩ := HF1.out
    go_wp2
    refine bodyPost_ret (v := .agg #[.int .i64 0, .slice none 0 0, .int .i64 1]) (by simp [results, Tryd.results84, go_sem, c0, c1, c2]) rfl ?_
    exact ⟨none, 0, rfl, OwnI.nil _ _ _ _, ((HF1.out.bel.setCell (by simp) _).setCell (by simp) _).setCell (by simp) _⟩
  · rw [hr] at hRt
    by_cases hi0 : how < 0
    · have hd0 : decide (how < 0) = true := decide_eq_true hi0
      obtain ⟨e1, e2, e3⟩ := turn_bad (side := side) (how := how) (l := l) (by simp [turnOk, inIs]; omega)
      rw [e1, e2, e3]
      clear hr e1 e2 e3 hi0
      go_enter Tryd.func84, Tryd.ntmps84
      go_wp2_with fail
      refine (hRt _ ((H.out.below HF0.out.bel).mono HF0.out.bel.size)).mono ?_
      rintro e w1 ⟨rfl, hb1⟩
      have HF1 := Lib.hid (HF0.out.below hb1)
      clear hb1
      obtain ⟨_, ⟨c0, c1, c2, f0, f1, f2⟩, _, hz⟩ := HF1.out
      go_wp2
      refine bodyPost_ret (v := .agg #[.int .i64 0, .slice none 0 0, .int .i64 1]) (by simp [results, Tryd.results84, go_sem, c0, c1, c2]) rfl ?_
      exact ⟨none, 0, rfl, OwnI.nil _ _ _ _, ((HF1.out.bel.setCell (by simp) _).setCell (by simp) _).setCell (by simp) _⟩
    · have hd0 : decide (how < 0) = false := decide_eq_false hi0
      by_cases hi7 : 7 < how
      · have hd7 : decide (7 < how) = true := decide_eq_true hi7
        obtain ⟨e1, e2, e3⟩ := turn_bad (side := side) (how := how) (l := l) (by simp [turnOk, inIs]; omega)
        rw [e1, e2, e3]
        clear hr e1 e2 e3 hi0 hi7
        go_enter Tryd.func84, Tryd.ntmps84
        go_wp2_with fail
        refine (hRt _ ((H.out.below HF0.out.bel).mono HF0.out.bel.size)).mono ?_
        rintro e w1 ⟨rfl, hb1⟩
        have HF1 := Lib.hid (HF0.out.below hb1)
        clear hb1
        obtain ⟨_, ⟨c0, c1, c2, f0, f1, f2⟩, _, hz⟩ := HF1.out
        go_wp2
        refine bodyPost_ret (v := .agg #[.int .i64 0, .slice none 0 0, .int .i64 1]) (by simp [results, Tryd.results84, go_sem, c0, c1, c2]) rfl ?_
        exact ⟨none, 0, rfl, OwnI.nil _ _ _ _, ((HF1.out.bel.setCell (by simp) _).setCell (by simp) _).setCell (by simp) _⟩
      · have hd7 : decide (7 < how) = false := decide_eq_false hi7
        obtain ⟨e1, e2, e3⟩ := turn_good (side := side) (how := how) (l := l) (by simp [turnOk, inIs, hr]; omega)
        rw [e1, e2, e3]
        obtain ⟨i0, hi, hz0, hz1, hz2⟩ := info_parts Tryd.infoInt
        obtain ⟨n, hn, hn4, hln⟩ := right_sn hr
        obtain ⟨m, rfl⟩ := Int.eq_ofNat_of_zero_le (show 0 ≤ how by omega)
        subst hn
        have hm7 : m ≤ 7 := by omega
        simp only [Int.toNat_natCast]
        have hn8 : n ≤ 8 ∧ 1 ≤ n := by rcases hn4 with rfl | rfl | rfl | rfl <;> omega
        have h64 : n * n ≤ 64 := by rcases hn4 with rfl | rfl | rfl | rfl <;> omega
        have HN4 := Lib.hid hn4
        have HLn := Lib.hid hln
        obtain ⟨q, hq⟩ : ∃ q, q = n * n := ⟨_, rfl⟩
        have hsq1 : IntKind.i64.wrap ((n : Int) * (n : Int)) = (q : Int) := by rw [IntWalk.i64_in _ (by rcases hn4 with rfl | rfl | rfl | rfl <;> omega)]; rw [hq]; rcases hn4 with rfl | rfl | rfl | rfl <;> rfl
        have hq64 : q ≤ 64 := by omega
        have HQ := Lib.hid hq
        have hnz : ¬ (n : Int) = 0 := by omega
        have hnz2 : ¬ n = 0 := by omega
        clear hr e1 e2 e3 hi0 hi7 hn4 hln h64 hq
        go_enter Tryd.func84, Tryd.ntmps84
        go_wp2_with fail
        refine (hRt _ ((H.out.below HF0.out.bel).mono HF0.out.bel.size)).mono ?_
        rintro e w1 ⟨rfl, hb1⟩
        have HF1 := Lib.hid (HF0.out.below hb1)
        clear hb1
        obtain ⟨⟨i0', i1, j0, j1⟩, _, _, hz1'⟩ := HF1.out
        have hz1w : w.heap.size < w1.heap.size := by omega
        have HT0 : Hid (TuB w n A c l.length w1.heap.size 0 none l (w1.alloc (.cells #[.int .i64 n, .slice none 0 0] 28)) []) := by
          have ha : Below w1.heap.size w1 (w1.alloc (.cells #[.int .i64 n, .slice none 0 0] 28)) := (Below.refl _ _).alloc (Nat.le_refl _) _
          have hf := HF1.out.below ha
          exact ⟨hf.inn, H.out.below hf.bel, hf.res, GB.made _ _ _ _, OwnI.nil _ _ _ _, hf.bel, by omega, by simp⟩
        clear HF1
        go_wp2
        generalize w1.alloc (.cells #[.int .i64 n, .slice none 0 0] 28) = w3 at *
        generalize w1.heap.size = o at *
        clear i0' i1 j0 j1
        go_loopw [29] (fun i wr => ∃ (k : Nat) (A' : Option Addr) (c' : Nat), i = .int .i64 k ∧ k ≤ q ∧ TuB w n A c l.length o c' A' l wr ((turnL n m l).take k)) (fun i _ => q - (intOf i).toNat)
        case atStart => exact ⟨0, none, 0, rfl, Nat.zero_le _, HT0.out⟩
        case round =>
          obtain ⟨k, A', c', rfl, hk, htb⟩ := hrel
          have HT := Lib.hid htb
          clear HT0
          by_cases hlt : k < q
          · have hkn : k < n * n := by rw [← HQ.out]; exact hlt
            obtain ⟨⟨hx, hy⟩, _⟩ := sq_at hkn
            simp only at hx hy
            obtain ⟨am, ham⟩ : ∃ am, am = k % n := ⟨_, rfl⟩
            obtain ⟨ad, had⟩ : ∃ ad, ad = k / n := ⟨_, rfl⟩
            rw [← ham] at hx
            rw [← had] at hy
            obtain ⟨fx, fy, hfe⟩ : ∃ fx fy, fromT n m (am, ad) = (fx, fy) := ⟨_, _, rfl⟩
            have hin := fromT_in (how := m) (show InSq n (am, ad) from ⟨hx, hy⟩)
            rw [hfe] at hin
            obtain ⟨hfx, hfy⟩ := hin
            simp only at hfx hfy
            have hF := fun w => (pFrom_any n m am ad HN4.out hm7 hx hy w).mono (fun _ _ h => (⟨h.1, h.2.symm⟩ : _ ∧ _))
            rw [hfe] at hF
            simp only at hF
            obtain ⟨_, _, _, _, s, S, ⟨_, eS, _, hS⟩, _, _, _, _, m5, m6⟩ := turn_idx HN4.out hfx hfy
            have hSl : S < l.length := by rw [HLn.out]; exact hS
            have HTK := Lib.hid (turn_take (how := m) HLn.out hkn (by rw [← ham, ← had]; exact hfe) eS hSl)
            have htm : (k : Int).tmod (n : Int) = (am : Int) := by rw [Int.tmod_eq_emod_of_nonneg (by omega), ham]; simp
            have htm2 : (k : Int) % (n : Int) = (am : Int) := by rw [ham]; simp
            have hdv : IntKind.i64.wrap ((k : Int) / (n : Int)) = (ad : Int) := by
              have hle : k / n ≤ k := Nat.div_le_self _ _
              rw [IntWalk.i64_in _ (by constructor <;> (rw [← Int.natCast_ediv]; omega)), had]
              simp
            obtain ⟨b, off, rfl, hbl, hcs⟩ := htb.src.at_ hSl
            have hSI : (S : Int) < (l.length : Int) := by omega
            have hS0 : (0 : Int) ≤ (S : Int) := by omega
            have htl : ((turnL n m l).take k).length = k := by rw [List.length_take, turnL_len]; omega
            have HTL := Lib.hid htl
            obtain ⟨⟨a0, a1, _, _⟩, _, _, ⟨y0, y1, _, _⟩, _, _, z1, z2⟩ := htb
            generalize l[S] = v at *
            generalize (turnL n m l).take k = U at *
            have hUl : U.length ≤ 64 := by have := HTL.out; omega
            clear ham had hkn hx hy hfe hfx hfy eS hS htl
            go_wp2_with fail
            go_quiet (first | (go_at_call 110; refine Calls.quiet_of_same (hF _)))
            have hst : Still wr (wr.drewN nq) := ⟨rfl, rfl, rfl, rfl⟩
            have HT2 := Lib.hid (HT.out.keep (hst.below _))
            have HCB := Lib.hid ((hst.cell ⟨b, off + S, none⟩).trans hcs)
            clear hcs
            clear a0 a1 y0 y1 hst HT hF
            go_wp2_with fail
            generalize wr.drewN nq = W at *
            obtain ⟨⟨a0, a1, _, _⟩, _, _, ⟨y0, y1, _, _⟩, _, hbl2, z1, z2⟩ := HT2.out
            have hcb := HCB.out
            clear HCB
            have hzb : b < W.heap.size := Nat.lt_of_lt_of_le hbl hbl2.size
            have HA := Lib.hid (HT2.out.own.alloc (.cells #[.int .i64 v] 2)).drew
            have HX : Hid (∀ j (h : j < [v].length), (W.alloc (.cells #[.int .i64 v] 2)).drew.cell? ⟨W.heap.size, 0 + j, none⟩ = some (.int .i64 [v][j])) := by
              show ∀ j (h : j < [v].length), _
              intro j hj
              obtain rfl : j = 0 := by simpa using hj
              simp [go_sem]
            have hab : Below W.heap.size W (W.alloc (.cells #[.int .i64 v] 2)).drew := ((Below.refl _ _).alloc (Nat.le_refl _) _).drew
            have HT3 := Lib.hid (HT2.out.keep hab)
            obtain ⟨_, _, _, ⟨g0, g1, g2, g3⟩, _, _, _, _⟩ := HT3.out
            have hnw : ¬ o = W.heap.size := by omega
            clear hab hbl2
            go_region_law ((refine step_append_ints Tryd.underlying26 hi hz0 hz1 hz2 (by decide) (by rfl) _ _ (by rfl) (o + 1) _ _ [v] _ W.heap.size 0 1 HA.out (by rfl) (by rfl) HX.out (Nat.zero_lt_one) (by simp <;> omega) (by simp <;> omega) ?_; intro g cap w1 hown1 hb1; obtain ⟨p0', p1', q0', q1'⟩ := HT3.out.cpy.below hb1 (by omega)))
            all_goals
              have HT4 := Lib.hid (HT3.out.step hown1 hb1)
              clear hown1 hb1 a0 a1 y0 y1 g0 g1 g2 g3 hcb
              go_wp2
              go_roundw
              case rel => exact ⟨k + 1, some ⟨g, 0, none⟩, cap, by go_num, by omega, by rw [HTK.out]; exact HT4.out⟩
              case measure => simp [intOf]; omega
          · have ek : (turnL n m l).take k = turnL n m l := List.take_of_length_le (by rw [turnL_len, ← HQ.out]; omega)
            rw [ek] at htb HT
            clear ek
            obtain ⟨⟨a0, a1, _, _⟩, _, ⟨c0, c1, c2, f0, f1, f2⟩, ⟨y0, y1, _, _⟩, _, _, z1, z2⟩ := htb
            generalize hU : turnL n m l = U at *
            have HU := Lib.hid hU
            clear hU
            go_wp2
            refine bodyPost_ret (v := .agg #[.int .i64 n, .slice A' U.length c', .int .i64 0]) (by simp [results, Tryd.results84, go_sem, c0, c1, c2]) rfl ?_
            rw [HU.out]
            refine ⟨A', c', rfl, ?_, ((HT.out.bel.setCell (by simp) _).setCell (by simp) _).setCell (by simp) _⟩
            exact OwnI.lower (base := o + 1) (by omega) (OwnI.set_below (by show w.heap.size + 1 < _; omega) _ (OwnI.set_below (by show w.heap.size + 1 < _; omega) _ (OwnI.set_below (by show w.heap.size + 1 < _; omega) _ HT.out.own)))
end Go.Proofs.YtoobkajilbmdhaaDoor

namespace Go.Proofs.YtoobkajilbmdhaaDoor
open Go.RowKit
set_option linter.unusedVariables false
set_option linter.unusedSimpArgs false

set_option maxRecDepth 100000 in
set_option maxHeartbeats 1000000 in
theorem pNodeTurn_any (A : Option Addr) (c : Nat) (l : List Nd) (rt side how : Int) (w : World) (h : RN w w.heap.size A l) (hl : l.length ≤ 1048576) (hc : l.length ≤ c) (hf : ∀ n ∈ l, n.Fits) (htab : HasTab w) :
    Calls Tryd.prog 39 #[.agg #[.slice A l.length c], .int .i64 rt, .int .i64 side, .int .i64 how] w (POut w (turnP l rt side how)) := by
  have hbw : Below w.heap.size w ((w.alloc (.cells #[.slice A l.length c] 25)).alloc (.cells #[.slice none 0 0, .int .i64 0, .int .i64 0] 32)) := ((Below.refl _ _).alloc (Nat.le_refl _) _).alloc (by simp) _
  have HT0 := Lib.hid (htab.below hbw)
  have hG := fun w h t => pPoolGet_any A c l rt side w h hl hc hf t
  have HF := Lib.hid hf
  have hT := getP_len l rt side
  have HS0 := Lib.hid (SB.made w A c l h)
  have hFl := fun A c t w h hl => pTurn_any side how A c t w h hl
  clear h hbw htab hf
  by_cases hC : (getP l rt side).1 = 0
  · obtain ⟨hr, hs, h1, h2, h3⟩ := getP_ok hC
    by_cases hF : turnCode side (getP l rt side).2.2 how = 0
    · obtain ⟨f1, f2⟩ := turn_right2 hF
      have HL2 := Lib.hid (turn_sq f2)
      have HE : Hid (turnP l rt side how = putR l side.toNat (turnTiles side (getP l rt side).2.2 how)) := by show _ = _; simp [turnP, hC, hF]
      rw [HE.out, ← putP_R hr f2]
      clear HE f2
      generalize getP l rt side = RES at *
      obtain ⟨C, S, T⟩ := RES
      simp only at hG hT hC h1 h2 hF f1 HL2 ⊢
      subst hC h1
      have hFl2 := fun A c w h => hFl A c T w h (by omega)
      rw [hF, f1] at hFl2
      clear hFl hF f1 h2
      generalize turnTiles S T how = L2 at *
      go_enter Tryd.func39, Tryd.ntmps39
      go_wp2_with fail
      refine (hG _ HS0.out.p.rn HT0.out).mono ?_
      rintro e w1 ⟨A1, c1, rfl, ho1, hb1⟩
      have HS1 := Lib.hid ((HS0.out.below hb1).below ((Below.refl _ _).alloc (Nat.le_refl _) (.cells #[.int .i64 S, .slice A1 T.length c1, .int .i64 0] 37)))
      have HO1 := Lib.hid (ho1.keep ((Below.refl _ _).alloc (Nat.le_refl _) (.cells #[.int .i64 S, .slice A1 T.length c1, .int .i64 0] 37))).ri
      have k0 : (w1.alloc (.cells #[.int .i64 S, .slice A1 T.length c1, .int .i64 0] 37)).cell? ⟨w1.heap.size, 0, none⟩ = some (.int .i64 S) := by simp [go_sem]
      have k1 : (w1.alloc (.cells #[.int .i64 S, .slice A1 T.length c1, .int .i64 0] 37)).cell? ⟨w1.heap.size, 1, none⟩ = some (.slice A1 T.length c1) := by simp [go_sem]
      have k2 : (w1.alloc (.cells #[.int .i64 S, .slice A1 T.length c1, .int .i64 0] 37)).cell? ⟨w1.heap.size, 2, none⟩ = some (.int .i64 0) := by simp [go_sem]
      clear hb1 ho1
      go_wp2_with fail
      generalize w1.alloc (.cells #[.int .i64 S, .slice A1 T.length c1, .int .i64 0] 37) = w2 at *
      refine (hFl2 _ _ _ HO1.out).mono ?_
      rintro e w3 ⟨A3, c3, rfl, ho3, hb3⟩
      have HS3 := Lib.hid ((HS1.out.below hb3).below ((Below.refl _ _).alloc (Nat.le_refl _) (.cells #[.int .i64 S, .slice A3 L2.length c3, .int .i64 0] 37)))
      have HO3 := Lib.hid (ho3.keep ((Below.refl _ _).alloc (Nat.le_refl _) (.cells #[.int .i64 S, .slice A3 L2.length c3, .int .i64 0] 37))).ri
      have m0 : (w3.alloc (.cells #[.int .i64 S, .slice A3 L2.length c3, .int .i64 0] 37)).cell? ⟨w3.heap.size, 0, none⟩ = some (.int .i64 S) := by simp [go_sem]
      have m1 : (w3.alloc (.cells #[.int .i64 S, .slice A3 L2.length c3, .int .i64 0] 37)).cell? ⟨w3.heap.size, 1, none⟩ = some (.slice A3 L2.length c3) := by simp [go_sem]
      have m2 : (w3.alloc (.cells #[.int .i64 S, .slice A3 L2.length c3, .int .i64 0] 37)).cell? ⟨w3.heap.size, 2, none⟩ = some (.int .i64 0) := by simp [go_sem]
      have p0 := HS3.out.p.c0
      clear hb3 ho3 k0 k1 k2
      go_wp2_with fail
      generalize w3.alloc (.cells #[.int .i64 S, .slice A3 L2.length c3, .int .i64 0] 37) = w4 at *
      have h200 := pool_len hr
      have hsb := side_bound hs
      have eS : ((S.toNat : Nat) : Int) = S := by omega
      rcases HS3.out.p.rn with hnil | ⟨b, off, rfl, hbl, hn⟩
      · exact absurd hnil h3
      have hPut := pPoolPut_any b off c c3 l S A3 L2 _ ⟨hbl, hn⟩ (by omega) HO3.out (by have := HL2.out; have : S.toNat * S.toNat ≤ 8 * 8 := Nat.mul_le_mul (by omega) (by omega); omega) hc HF.out
      refine hPut.mono ?_
      rintro e w5 ⟨A5, c5, rfl, ho5, hb5⟩
      have HS5 := Lib.hid (HS3.out.below hb5)
      have HO5 := Lib.hid (OwnN.lower (base' := w.heap.size + 1 + 1) HS3.out.siz ho5)
      obtain ⟨_, d0, d1, d2, e0, e1, e2, hz5⟩ := HS5.out
      clear hb5 ho5 hPut p0 m0 m1 m2
      generalize putP l S L2 = R at *
      obtain ⟨rc, rr, rl⟩ := R
      simp only at HO5
      go_wp2_with fail
      refine bodyPost_ret (v := .agg #[.slice A5 rl.length c5, .int .i64 rr, .int .i64 rc]) (by simp [results, Tryd.results39, go_sem, d0, d1, d2]) rfl ⟨A5, c5, rfl, ?_, ?_⟩
      · exact OwnN.lower (base := w.heap.size + 1 + 1) (by omega) (OwnN.set_below (by show w.heap.size + 1 < _; omega) _ (OwnN.set_below (by show w.heap.size + 1 < _; omega) _ (OwnN.set_below (by show w.heap.size + 1 < _; omega) _ HO5.out)))
      · exact ((HS5.out.p.bel.setCell (by simp) _).setCell (by simp) _).setCell (by simp) _
    · have HE : Hid (turnP l rt side how = (turnCode side (getP l rt side).2.2 how, 0, [])) := by show _ = _; simp [turnP, hC, hF]
      rw [HE.out]
      clear HE
      generalize getP l rt side = RES at *
      obtain ⟨C, S, T⟩ := RES
      simp only at hG hT hC h1 h2 hF ⊢
      subst hC h1
      have hFl2 := fun A c w h => hFl A c T w h (by omega)
      have hq : (turnCode S T how != 0) = true := by simpa using hF
      clear hFl hF h2
      generalize turnTiles S T how = L2 at *
      generalize turnSide S T how = S2 at *
      generalize turnCode S T how = C2 at *
      go_enter Tryd.func39, Tryd.ntmps39
      go_wp2_with fail
      refine (hG _ HS0.out.p.rn HT0.out).mono ?_
      rintro e w1 ⟨A1, c1, rfl, ho1, hb1⟩
      have HS1 := Lib.hid ((HS0.out.below hb1).below ((Below.refl _ _).alloc (Nat.le_refl _) (.cells #[.int .i64 S, .slice A1 T.length c1, .int .i64 0] 37)))
      have HO1 := Lib.hid (ho1.keep ((Below.refl _ _).alloc (Nat.le_refl _) (.cells #[.int .i64 S, .slice A1 T.length c1, .int .i64 0] 37))).ri
      have k0 : (w1.alloc (.cells #[.int .i64 S, .slice A1 T.length c1, .int .i64 0] 37)).cell? ⟨w1.heap.size, 0, none⟩ = some (.int .i64 S) := by simp [go_sem]
      have k1 : (w1.alloc (.cells #[.int .i64 S, .slice A1 T.length c1, .int .i64 0] 37)).cell? ⟨w1.heap.size, 1, none⟩ = some (.slice A1 T.length c1) := by simp [go_sem]
      have k2 : (w1.alloc (.cells #[.int .i64 S, .slice A1 T.length c1, .int .i64 0] 37)).cell? ⟨w1.heap.size, 2, none⟩ = some (.int .i64 0) := by simp [go_sem]
      clear hb1 ho1
      go_wp2_with fail
      generalize w1.alloc (.cells #[.int .i64 S, .slice A1 T.length c1, .int .i64 0] 37) = w2 at *
      refine (hFl2 _ _ _ HO1.out).mono ?_
      rintro e w3 ⟨A3, c3, rfl, ho3, hb3⟩
      have HS3 := Lib.hid ((HS1.out.below hb3).below ((Below.refl _ _).alloc (Nat.le_refl _) (.cells #[.int .i64 S2, .slice A3 L2.length c3, .int .i64 C2] 37)))
      have m2 : (w3.alloc (.cells #[.int .i64 S2, .slice A3 L2.length c3, .int .i64 C2] 37)).cell? ⟨w3.heap.size, 2, none⟩ = some (.int .i64 C2) := by simp [go_sem]
      clear hb3 ho3 k0 k1 k2
      obtain ⟨_, d0, d1, d2, e0, e1, e2, hz5⟩ := HS3.out
      go_wp2
      refine bodyPost_ret (v := .agg #[.slice none 0 0, .int .i64 0, .int .i64 C2]) (by simp [results, Tryd.results39, go_sem, d0, d1, d2]) rfl ⟨none, 0, rfl, OwnN.nil _ _, ?_⟩
      exact ((HS3.out.p.bel.setCell (by simp) _).setCell (by simp) _).setCell (by simp) _
  · have HE : Hid (turnP l rt side how = ((getP l rt side).1, 0, [])) := by show _ = _; simp [turnP, hC]
    rw [HE.out]
    clear HE hFl
    generalize getP l rt side = RES at *
    obtain ⟨C, S, T⟩ := RES
    simp only at hG hT hC ⊢
    have hq : (C != 0) = true := by simpa using hC
    clear hC
    go_enter Tryd.func39, Tryd.ntmps39
    go_wp2_with fail
    refine (hG _ HS0.out.p.rn HT0.out).mono ?_
    rintro e w1 ⟨A1, c1, rfl, ho1, hb1⟩
    have HS1 := Lib.hid ((HS0.out.below hb1).below ((Below.refl _ _).alloc (Nat.le_refl _) (.cells #[.int .i64 S, .slice A1 T.length c1, .int .i64 C] 37)))
    have k2 : (w1.alloc (.cells #[.int .i64 S, .slice A1 T.length c1, .int .i64 C] 37)).cell? ⟨w1.heap.size, 2, none⟩ = some (.int .i64 C) := by simp [go_sem]
    clear hb1 ho1
    obtain ⟨_, d0, d1, d2, e0, e1, e2, hz5⟩ := HS1.out
    go_wp2
    refine bodyPost_ret (v := .agg #[.slice none 0 0, .int .i64 0, .int .i64 C]) (by simp [results, Tryd.results39, go_sem, d0, d1, d2]) rfl ⟨none, 0, rfl, OwnN.nil _ _, ?_⟩
    exact ((HS1.out.p.bel.setCell (by simp) _).setCell (by simp) _).setCell (by simp) _
end Go.Proofs.YtoobkajilbmdhaaDoor

namespace Go.Proofs.YtoobkajilbmdhaaDoor
open Go.RowKit
set_option linter.unusedVariables false
set_option linter.unusedSimpArgs false

theorem mPut_rn (A : Option Addr) (c cg n m : Nat) (l : List Nd) (A' : Option Addr) (t : List Int) (w : World) (h : RN w w.heap.size A l) (hne : l ≠ []) (hl : l.length ≤ 1000) (hri : RI w w.heap.size A' t) (hs : sideOk (n : Int) = true) (ht : t.length = n * n) (hm : t.length = m) :
    Calls Tryd.prog 57 #[.agg #[.slice A l.length c], .agg #[.int .i64 n, .slice A' m cg]] w (POut w (putR l n t)) := by
  subst hm
  rcases h with h | ⟨b, off, rfl, hb, hn⟩
  · exact absurd h hne
  · exact mPut_any b off c cg n l A' t w hb hn hl hri hs ht

set_option maxRecDepth 100000 in
set_option maxHeartbeats 1000000 in
theorem mNodeTurn_any (A : Option Addr) (c : Nat) (l : List Nd) (rt side how : Int) (w : World) (h : RN w w.heap.size A l) (hl : l.length ≤ 1000000000) :
    Calls Tryd.prog 38 #[.agg #[.slice A l.length c], .int .i64 rt, .int .i64 side, .int .i64 how] w (POut w (turnP l rt side how)) := by
  have hG := fun w h => mPoolGet_any A c l rt side w h hl
  have hT := getP_len l rt side
  have HS0 := Lib.hid (SB.made w A c l h)
  have hIs := fun w => mIs_any how 0 7 w
  clear h
  by_cases hC : (getP l rt side).1 = 0
  · obtain ⟨hr, hs, h1, h2, h3⟩ := getP_ok hC
    have hgr := getP_right hC
    cases hi : inIs how 0 7
    · rw [hi] at hIs
      have HE : Hid (turnP l rt side how = (1, 0, [])) := by
        show _ = _
        have hc : turnCode side (getP l rt side).2.2 how = 1 := by simp [turnCode, turnOk, hi]
        rw [turnP, if_pos hC, hc]
        rfl
      rw [HE.out]
      clear HE hgr hi
      generalize getP l rt side = RES at *
      obtain ⟨C, S, T⟩ := RES
      simp only at hG hT hC h1 h2 ⊢
      subst hC h1
      have hIll := mPIll_any 1
      clear h2
      go_enter Tryd.func38, Tryd.ntmps38
      go_wp2_with fail
      refine (hG _ HS0.out.p.rn).mono ?_
      rintro e w1 ⟨A1, c1, rfl, ho1, hb1⟩
      have HS1 := Lib.hid ((HS0.out.below hb1).below ((Below.refl _ _).alloc (Nat.le_refl _) (.cells #[.int .i64 S, .slice A1 T.length c1, .int .i64 0] 37)))
      have k2 : (w1.alloc (.cells #[.int .i64 S, .slice A1 T.length c1, .int .i64 0] 37)).cell? ⟨w1.heap.size, 2, none⟩ = some (.int .i64 0) := by simp [go_sem]
      clear hb1 ho1
      go_wp2_with fail
      generalize w1.alloc (.cells #[.int .i64 S, .slice A1 T.length c1, .int .i64 0] 37) = w2 at *
      refine (hIs _).mono ?_
      rintro e w9 ⟨rfl, rfl⟩
      go_wp2_with fail
      refine (hIll _).mono ?_
      rintro e w5 ⟨rfl, hb5⟩
      have HS5 := Lib.hid (HS1.out.below hb5)
      obtain ⟨_, d0, d1, d2, e0, e1, e2, hz5⟩ := HS5.out
      clear hb5 k2
      go_wp2
      refine bodyPost_ret (v := .agg #[.slice none 0 0, .int .i64 0, .int .i64 1]) (by simp [results, Tryd.results38, go_sem, d0, d1, d2]) rfl ⟨none, 0, rfl, OwnN.nil _ _, ?_⟩
      exact ((HS5.out.p.bel.setCell (by simp) _).setCell (by simp) _).setCell (by simp) _
    · rw [hi] at hIs
      obtain ⟨n, hn, hn4, hln⟩ := right_sn hgr
      have hb7 : 0 ≤ how ∧ how ≤ 7 := by simpa [inIs] using hi
      obtain ⟨m, rfl⟩ := Int.eq_ofNat_of_zero_le hb7.1
      have hm7 : m ≤ 7 := by omega
      have HE : Hid (turnP l rt side m = putR l n (turnL n m (getP l rt side).2.2)) := by
        show _ = _
        have hok : turnOk side (getP l rt side).2.2 m = true := by rw [turnOk, hgr, hi]; rfl
        have hc : turnCode side (getP l rt side).2.2 m = 0 := by rw [turnCode, if_pos hok]
        have ht : turnTiles side (getP l rt side).2.2 m = turnL n m (getP l rt side).2.2 := by rw [turnTiles, if_pos hok, hn, Int.toNat_natCast, Int.toNat_natCast]
        rw [turnP, if_pos hC, if_pos hc, ht, hn, Int.toNat_natCast]
      rw [HE.out]
      clear HE hgr hi hb7
      generalize getP l rt side = RES at *
      obtain ⟨C, S, T⟩ := RES
      simp only at hG hT hC h1 h2 hln ⊢
      subst hC h1 hn
      have HK := Lib.hid (fun A c w h => mTurned_any n m hn4 hm7 A c T w h hln)
      have HLn := Lib.hid hln
      have HTL : Hid ((turnL n m T).length = T.length) := by show _ = _; rw [turnL_len, hln]
      have HN4 := Lib.hid hn4
      clear h2 hln hn4 hm7
      generalize hU : turnL n m T = U at *
      clear hU
      go_enter Tryd.func38, Tryd.ntmps38
      go_wp2_with fail
      refine (hG _ HS0.out.p.rn).mono ?_
      rintro e w1 ⟨A1, c1, rfl, ho1, hb1⟩
      have HS1 := Lib.hid ((HS0.out.below hb1).below ((Below.refl _ _).alloc (Nat.le_refl _) (.cells #[.int .i64 n, .slice A1 T.length c1, .int .i64 0] 37)))
      have HO1 := Lib.hid (ho1.keep ((Below.refl _ _).alloc (Nat.le_refl _) (.cells #[.int .i64 n, .slice A1 T.length c1, .int .i64 0] 37))).ri
      have k0 : (w1.alloc (.cells #[.int .i64 n, .slice A1 T.length c1, .int .i64 0] 37)).cell? ⟨w1.heap.size, 0, none⟩ = some (.int .i64 n) := by simp [go_sem]
      have k1 : (w1.alloc (.cells #[.int .i64 n, .slice A1 T.length c1, .int .i64 0] 37)).cell? ⟨w1.heap.size, 1, none⟩ = some (.slice A1 T.length c1) := by simp [go_sem]
      have k2 : (w1.alloc (.cells #[.int .i64 n, .slice A1 T.length c1, .int .i64 0] 37)).cell? ⟨w1.heap.size, 2, none⟩ = some (.int .i64 0) := by simp [go_sem]
      have hzk : w1.heap.size < (w1.alloc (.cells #[.int .i64 n, .slice A1 T.length c1, .int .i64 0] 37)).heap.size := by simp
      clear hb1 ho1
      go_wp2_with fail
      generalize w1.alloc (.cells #[.int .i64 n, .slice A1 T.length c1, .int .i64 0] 37) = w2 at *
      refine (hIs _).mono ?_
      rintro e w9 ⟨rfl, rfl⟩
      have p0 := HS1.out.p.c0
      have hdd : Below w2.heap.size w2 w2.drew := (Below.refl _ _).drew
      have HD1 := Lib.hid (HS1.out.below hdd)
      have HOD := Lib.hid (HO1.out.below hdd)
      have h200 := pool_len hr
      clear hdd
      go_wp2_with fail
      go_region_with
        (first
          | (go_at_call 57; refine (mPut_rn A c c3 n T.length l A3 U w3 HS3.out.p.rn h3 (by omega) HO3.out hs (by rw [HTL.out]; exact HLn.out) HTL.out).mono ?_; rintro e w5 ⟨A5, c5, rfl, ho5, hb5⟩; have HS5 := Lib.hid (HS3.out.below hb5); have HO5 := Lib.hid (OwnN.lower (base' := w.heap.size + 1 + 1) HS3.out.siz ho5); obtain ⟨_, d0, d1, d2, e0, e1, e2, hz5⟩ := HS5.out; clear hb5 ho5)
          | (go_at_call 83; refine (HK.out _ _ w2.drew HOD.out).mono ?_; rintro e w3 ⟨A3, c3, rfl, ho3, hb3⟩; have HS3 := Lib.hid (HD1.out.below hb3); have HO3 := Lib.hid (show OwnI 2 .i64 w3 w2.drew.heap.size (.slice A3 U.length c3) U by rw [HTL.out]; exact ho3).ri; have p3 := HS3.out.p.c0; clear hb3 ho3))
      all_goals first | go_wp2 | skip
      all_goals
        generalize putR l n U = R at *
        obtain ⟨rc, rr, rl⟩ := R
        simp only at HO5
        refine bodyPost_ret (v := .agg #[.slice A5 rl.length c5, .int .i64 rr, .int .i64 rc]) (by simp [results, Tryd.results38, go_sem, d0, d1, d2]) rfl ⟨A5, c5, rfl, ?_, ?_⟩
        · exact OwnN.lower (base := w.heap.size + 1 + 1) (by omega) (OwnN.set_below (by show w.heap.size + 1 < _; omega) _ (OwnN.set_below (by show w.heap.size + 1 < _; omega) _ (OwnN.set_below (by show w.heap.size + 1 < _; omega) _ HO5.out)))
        · exact ((HS5.out.p.bel.setCell (by simp) _).setCell (by simp) _).setCell (by simp) _
  · have HE : Hid (turnP l rt side how = ((getP l rt side).1, 0, [])) := by show _ = _; simp [turnP, hC]
    rw [HE.out]
    clear HE hIs
    generalize getP l rt side = RES at *
    obtain ⟨C, S, T⟩ := RES
    simp only at hG hT hC ⊢
    have hq : (C != 0) = true := by simpa using hC
    have hIll := mPIll_any C
    clear hC
    go_enter Tryd.func38, Tryd.ntmps38
    go_wp2_with fail
    refine (hG _ HS0.out.p.rn).mono ?_
    rintro e w1 ⟨A1, c1, rfl, ho1, hb1⟩
    have HS1 := Lib.hid ((HS0.out.below hb1).below ((Below.refl _ _).alloc (Nat.le_refl _) (.cells #[.int .i64 S, .slice A1 T.length c1, .int .i64 C] 37)))
    have k2 : (w1.alloc (.cells #[.int .i64 S, .slice A1 T.length c1, .int .i64 C] 37)).cell? ⟨w1.heap.size, 2, none⟩ = some (.int .i64 C) := by simp [go_sem]
    clear hb1 ho1
    go_wp2_with fail
    generalize w1.alloc (.cells #[.int .i64 S, .slice A1 T.length c1, .int .i64 C] 37) = w2 at *
    refine (hIll _).mono ?_
    rintro e w5 ⟨rfl, hb5⟩
    have HS5 := Lib.hid (HS1.out.below hb5)
    obtain ⟨_, d0, d1, d2, e0, e1, e2, hz5⟩ := HS5.out
    clear hb5 k2
    go_wp2
    refine bodyPost_ret (v := .agg #[.slice none 0 0, .int .i64 0, .int .i64 C]) (by simp [results, Tryd.results38, go_sem, d0, d1, d2]) rfl ⟨none, 0, rfl, OwnN.nil _ _, ?_⟩
    exact ((HS5.out.p.bel.setCell (by simp) _).setCell (by simp) _).setCell (by simp) _
end Go.Proofs.YtoobkajilbmdhaaDoor
