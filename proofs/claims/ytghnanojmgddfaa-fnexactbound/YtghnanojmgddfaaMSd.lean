/- Several texts in one: EqP, SmM, BdL, BdM. -/
import Derived.Test.YtghnanojmgddfaaPlL
import Derived.BigRegion
import Derived.Test.YtghnanojmgddfaaTbW
import Derived.Test.YtghnanojmgddfaaWyW
import Derived.Test.YtghnanojmgddfaaWyBm
import Derived.Deep.CutRange
import Derived.Deep.RegionHeld3
namespace Go.Proofs.Ytghnanojmgddfaa
open Go.RowKit
set_option linter.unusedVariables false
set_option linter.unusedSimpArgs false

theorem eq_short {α : Type} {l l' : List α} (h : ¬ l = l') (hl : l'.length = l.length) : ∃ k, ∃ h1 : k < l.length, ∃ h2 : k < l'.length, ¬ l[k] = l'[k] := by
  refine Classical.byContradiction fun hc => h (List.ext_getElem hl.symm fun k h1 h2 => ?_)
  refine Classical.byContradiction fun hk => hc ⟨k, h1, h2, hk⟩

set_option maxRecDepth 100000 in
set_option maxHeartbeats 2000000 in
theorem pEqInts_any (A A' : Option Addr) (c c' : Nat) (l l' : List Int) (w : World) (h : RI w w.heap.size A l) (h' : RI w w.heap.size A' l') (hl : l.length ≤ 1000000000) (hl' : l'.length ≤ 1000000000) :
    Calls Try.prog 102 #[.slice A l.length c, .slice A' l'.length c'] w fun e w' => e = .returned (.bool (decide (l = l'))) ∧ Below w.heap.size w w' := by
  have H := Lib.hid h
  have H' := Lib.hid h'
  clear h h'
  by_cases hle : l'.length = l.length
  · have HLE := Lib.hid hle
    rw [hle]
    clear hle hl'
    go_enter Try.func102, Try.ntmps102
    go_wp2
    go_loopw [13] (fun i wr => ∃ k : Nat, i = .int .i64 k ∧ k ≤ l.length ∧ Hid (Below w.heap.size w wr) ∧ Hid (∀ j (h1 : j < l.length) (h2 : j < l'.length), j < k → l[j] = l'[j])) (fun i _ => l.length - (intOf i).toNat)
    case atStart => exact ⟨0, rfl, Nat.zero_le _, Below.refl _ _, fun j _ _ h => absurd h (Nat.not_lt_zero _)⟩
    case round =>
      obtain ⟨k, rfl, hk, HB, HA⟩ := hrel
      by_cases hlt : k < l.length
      · have hlt' : k < l'.length := by rw [HLE.out]; exact hlt
        obtain ⟨b1, o1, rfl, _, hc1⟩ := (H.out.below HB.out).at_ hlt
        obtain ⟨b2, o2, rfl, _, hc2⟩ := (H'.out.below HB.out).at_ hlt'
        have hkI : (k : Int) < (l.length : Int) := by omega
        have HXY : Hid (∀ x y, l[k] = x → l'[k] = y → (x = y → ∀ j (h1 : j < l.length) (h2 : j < l'.length), j < k + 1 → l[j] = l'[j]) ∧ (¬ x = y → ¬ l = l')) := by
          intro x y hx hy
          refine ⟨fun e j h1 h2 hj => ?_, fun e e2 => ?_⟩
          · by_cases hjk : j < k
            · exact HA.out j h1 h2 hjk
            · obtain rfl : j = k := by omega
              rw [hx, hy, e]
          · subst e2
            exact e (hx.symm.trans hy)
        generalize hx : l[k] = x at hc1
        generalize hy : l'[k] = y at hc2
        have HC := Lib.hid (HXY.out x y hx hy)
        clear hx hy HXY hlt'
        by_cases hxy : x = y
        · have HN := Lib.hid (HC.out.1 hxy)
          subst hxy
          go_wp2_with fail
          go_region
          go_wp2
          go_roundw
          case rel => exact ⟨k + 1, by go_num, by omega, HB.out.drew, HN.out⟩
          case measure => simp [intOf] <;> omega
        · have HN := Lib.hid (HC.out.2 hxy)
          go_wp2_with fail
          go_region
          go_wp2
          go_ret
          exact ⟨ret_bool (decide_eq_false HN.out).symm, HB.out.drew⟩
      · obtain rfl : k = l.length := by omega
        have HE : Hid (l = l') := List.ext_getElem HLE.out.symm fun j h1 h2 => HA.out j h1 h2 h1
        go_wp2
        go_ret
        exact ⟨ret_bool (decide_eq_true HE.out).symm, HB.out⟩
  · have HN : Hid (¬ l = l') := fun e => hle (by rw [e])
    have hne : ¬ l.length = l'.length := fun e => hle e.symm
    have hneI : ¬ (l.length : Int) = (l'.length : Int) := by omega
    go_enter Try.func102, Try.ntmps102
    go_wp2
    go_ret
    exact ⟨ret_bool (decide_eq_false HN.out).symm, Below.refl _ _⟩

theorem pl_ne {x y u v : Int} (h : ¬ (⟨x, y⟩ : Pl) = ⟨u, v⟩) : ¬ x = u ∨ (x = u ∧ ¬ y = v) := by
  rw [Pl.eq_iff] at h
  simp only at h
  omega

set_option maxRecDepth 100000 in
set_option maxHeartbeats 2000000 in
theorem pEqPls_any (A A' : Option Addr) (c c' : Nat) (l l' : List Pl) (w : World) (h : RPl w w.heap.size A l) (h' : RPl w w.heap.size A' l') (hl : l.length ≤ 1000000000) (hl' : l'.length ≤ 1000000000) :
    Calls Try.prog 101 #[.slice A l.length c, .slice A' l'.length c'] w fun e w' => e = .returned (.bool (decide (l = l'))) ∧ Below w.heap.size w w' := by
  have H := Lib.hid h
  have H' := Lib.hid h'
  clear h h'
  by_cases hle : l'.length = l.length
  · have HLE := Lib.hid hle
    rw [hle]
    clear hle hl'
    go_enter Try.func101, Try.ntmps101
    go_wp2
    go_loopw [13] (fun i wr => ∃ k : Nat, i = .int .i64 k ∧ k ≤ l.length ∧ Hid (Below w.heap.size w wr) ∧ Hid (∀ j (h1 : j < l.length) (h2 : j < l'.length), j < k → l[j] = l'[j])) (fun i _ => l.length - (intOf i).toNat)
    case atStart => exact ⟨0, rfl, Nat.zero_le _, Below.refl _ _, fun j _ _ h => absurd h (Nat.not_lt_zero _)⟩
    case round =>
      obtain ⟨k, rfl, hk, HB, HA⟩ := hrel
      by_cases hlt : k < l.length
      · have hlt' : k < l'.length := by rw [HLE.out]; exact hlt
        obtain ⟨b1, o1, rfl, _, hc1⟩ := (H.out.below HB.out).at_ hlt
        obtain ⟨b2, o2, rfl, _, hc2⟩ := (H'.out.below HB.out).at_ hlt'
        have hkI : (k : Int) < (l.length : Int) := by omega
        have HXY : Hid (∀ x y, l[k] = x → l'[k] = y → (x = y → ∀ j (h1 : j < l.length) (h2 : j < l'.length), j < k + 1 → l[j] = l'[j]) ∧ (¬ x = y → ¬ l = l')) := by
          intro x y hx hy
          refine ⟨fun e j h1 h2 hj => ?_, fun e e2 => ?_⟩
          · by_cases hjk : j < k
            · exact HA.out j h1 h2 hjk
            · obtain rfl : j = k := by omega
              rw [hx, hy, e]
          · subst e2
            exact e (hx.symm.trans hy)
        generalize hx : l[k] = x at hc1
        generalize hy : l'[k] = y at hc2
        have HC := Lib.hid (HXY.out x y hx hy)
        clear hx hy HXY hlt'
        obtain ⟨x1, x2⟩ := x
        obtain ⟨y1, y2⟩ := y
        obtain ⟨c1, c2⟩ := hc1
        obtain ⟨d1, d2⟩ := hc2
        by_cases hxy : (⟨x1, x2⟩ : Pl) = ⟨y1, y2⟩
        · have HN := Lib.hid (HC.out.1 hxy)
          cases hxy
          go_wp2_with fail
          go_region
          go_wp2
          go_roundw
          case rel => exact ⟨k + 1, by go_num, by omega, HB.out.drew, HN.out⟩
          case measure => simp [intOf] <;> omega
        · have HN := Lib.hid (HC.out.2 hxy)
          have h5 := pl_ne hxy
          clear hxy HC
          rcases h5 with h5 | ⟨rfl, h5⟩
          all_goals
            go_wp2_with fail
            go_region
            go_wp2
            go_ret
            exact ⟨ret_bool (decide_eq_false HN.out).symm, HB.out.drew⟩
      · obtain rfl : k = l.length := by omega
        have HE : Hid (l = l') := List.ext_getElem HLE.out.symm fun j h1 h2 => HA.out j h1 h2 h1
        go_wp2
        go_ret
        exact ⟨ret_bool (decide_eq_true HE.out).symm, HB.out⟩
  · have HN : Hid (¬ l = l') := fun e => hle (by rw [e])
    have hne : ¬ l.length = l'.length := fun e => hle e.symm
    have hneI : ¬ (l.length : Int) = (l'.length : Int) := by omega
    go_enter Try.func101, Try.ntmps101
    go_wp2
    go_ret
    exact ⟨ret_bool (decide_eq_false HN.out).symm, Below.refl _ _⟩
end Go.Proofs.Ytghnanojmgddfaa

namespace Go.Proofs.Ytghnanojmgddfaa
open Go.RowKit
set_option linter.unusedVariables false
set_option linter.unusedSimpArgs false

/-- The boxes of two tables. -/
structure TT (w : World) (v1 v2 u1 u2 : Value) (wr : World) : Prop where
  a : TB wr w.heap.size v1 v2
  b : TB wr (w.heap.size + 1) u1 u2
  bel : Below w.heap.size w wr
  siz : w.heap.size + 1 < wr.heap.size
theorem TT.below {w wr wr' : World} {v1 v2 u1 u2 : Value} (h : TT w v1 v2 u1 u2 wr) (hb : Below wr.heap.size wr wr') : TT w v1 v2 u1 u2 wr' := by
  have hz := h.siz
  exact ⟨h.a.below hb (by omega), h.b.below hb hz, h.bel.trans (hb.mono (by omega)), Nat.lt_of_lt_of_le hz hb.size⟩
theorem TT.made (w : World) (v1 v2 u1 u2 : Value) : TT w v1 v2 u1 u2 ((w.alloc (.cells #[v1, v2] 45)).alloc (.cells #[u1, u2] 45)) :=
  ⟨(TB.made2 w v1 v2 u1 u2 45).1, (TB.made2 w v1 v2 u1 u2 45).2, bel_T (bel_A _ _) (bel_A _ _), by simp⟩

set_option maxRecDepth 100000 in
set_option maxHeartbeats 2000000 in
theorem mSame_any (A A' D D' : Option Addr) (c c' d d' : Nat) (T T' : List Pl) (L L' : List Int) (w : World) (h : RPl w w.heap.size A T) (h' : RPl w w.heap.size A' T') (k : RI w w.heap.size D L) (k' : RI w w.heap.size D' L') (hT : T.length ≤ 1000000000) (hT' : T'.length ≤ 1000000000) (hL : L.length ≤ 1000000000) (hL' : L'.length ≤ 1000000000) :
    Calls Try.prog 67 #[.agg #[.slice A T.length c, .slice D L.length d], .agg #[.slice A' T'.length c', .slice D' L'.length d']] w fun e w' => e = .returned (.bool (decide (T = T') && decide (L = L'))) ∧ Below w.heap.size w w' := by
  have H := Lib.hid h
  have H' := Lib.hid h'
  have K := Lib.hid k
  have K' := Lib.hid k'
  clear h h' k k'
  have HB := Lib.hid (TT.made w (.slice A T.length c) (.slice D L.length d) (.slice A' T'.length c') (.slice D' L'.length d'))
  by_cases hlt : T'.length = T.length
  · by_cases hll : L'.length = L.length
    · have HLT := Lib.hid hlt
      have HLL := Lib.hid hll
      rw [hlt, hll] at HB ⊢
      clear hlt hll hT' hL'
      go_enter Try.func67, Try.ntmps67
      obtain ⟨x0, x1, _, _⟩ := HB.out.a
      obtain ⟨y0, y1, _, _⟩ := HB.out.b
      go_wp2_with fail
      go_loopw [5] (fun i wr => ∃ k : Nat, i = .int .i64 k ∧ k ≤ T.length ∧ Hid (TT w (.slice A T.length c) (.slice D L.length d) (.slice A' T.length c') (.slice D' L.length d') wr) ∧ Hid (∀ j (h1 : j < T.length) (h2 : j < T'.length), j < k → T[j] = T'[j])) (fun i _ => T.length - (intOf i).toNat)
      case atStart => exact ⟨0, rfl, Nat.zero_le _, HB.out, fun j _ _ h => absurd h (Nat.not_lt_zero _)⟩
      case round =>
        clear x0 x1 y0 y1
        obtain ⟨k, rfl, hk, HB1, HA⟩ := hrel
        obtain ⟨x0, x1, _, _⟩ := HB1.out.a
        obtain ⟨y0, y1, _, _⟩ := HB1.out.b
        by_cases hlt : k < T.length
        · have hlt' : k < T'.length := by rw [HLT.out]; exact hlt
          obtain ⟨b1, o1, rfl, _, hc1⟩ := (H.out.below HB1.out.bel).at_ hlt
          obtain ⟨b2, o2, rfl, _, hc2⟩ := (H'.out.below HB1.out.bel).at_ hlt'
          have hkI : (k : Int) < (T.length : Int) := by omega
          have HXY : Hid (∀ x y, T[k] = x → T'[k] = y → (x = y → ∀ j (h1 : j < T.length) (h2 : j < T'.length), j < k + 1 → T[j] = T'[j]) ∧ (¬ x = y → ¬ T = T')) := by
            intro x y hx hy
            refine ⟨fun e j h1 h2 hj => ?_, fun e e2 => ?_⟩
            · by_cases hjk : j < k
              · exact HA.out j h1 h2 hjk
              · obtain rfl : j = k := by omega
                rw [hx, hy, e]
            · subst e2
              exact e (hx.symm.trans hy)
          generalize hx : T[k] = x at hc1
          generalize hy : T'[k] = y at hc2
          have HC := Lib.hid (HXY.out x y hx hy)
          clear hx hy HXY hlt'
          obtain ⟨x1', x2'⟩ := x
          obtain ⟨y1', y2'⟩ := y
          obtain ⟨c1, c2⟩ := hc1
          obtain ⟨d1, d2⟩ := hc2
          by_cases hxy : (⟨x1', x2'⟩ : Pl) = ⟨y1', y2'⟩
          · have HN := Lib.hid (HC.out.1 hxy)
            cases hxy
            go_wp2_with fail
            go_region
            go_wp2
            go_roundw
            case rel => exact ⟨k + 1, by go_num, by omega, HB1.out.below (bel_D _), HN.out⟩
            case measure => simp [intOf] <;> omega
          · have HN := Lib.hid (HC.out.2 hxy)
            have h5 := pl_ne hxy
            clear hxy HC
            rcases h5 with h5 | ⟨rfl, h5⟩
            all_goals
              go_wp2_with fail
              go_region
              go_wp2
              go_ret
              exact ⟨ret_bool (by rw [decide_eq_false HN.out]; rfl), (HB1.out.below (bel_D _)).bel⟩
        · obtain rfl : k = T.length := by omega
          have HE : Hid (T = T') := List.ext_getElem HLT.out.symm fun j h1 h2 => HA.out j h1 h2 h1
          clear HA
          go_wp2_with fail
          go_loopw [6] (fun i wr => ∃ k : Nat, i = .int .i64 k ∧ k ≤ L.length ∧ Hid (TT w (.slice A T.length c) (.slice D L.length d) (.slice A' T.length c') (.slice D' L.length d') wr) ∧ Hid (∀ j (h1 : j < L.length) (h2 : j < L'.length), j < k → L[j] = L'[j])) (fun i _ => L.length - (intOf i).toNat)
          case atStart => exact ⟨0, rfl, Nat.zero_le _, HB1.out, fun j _ _ h => absurd h (Nat.not_lt_zero _)⟩
          case round =>
            clear x0 x1 y0 y1
            obtain ⟨k, rfl, hk, HB2, HA⟩ := hrel
            obtain ⟨x0, x1, _, _⟩ := HB2.out.a
            obtain ⟨y0, y1, _, _⟩ := HB2.out.b
            by_cases hlt : k < L.length
            · have hlt' : k < L'.length := by rw [HLL.out]; exact hlt
              obtain ⟨b1, o1, rfl, _, hc1⟩ := (K.out.below HB2.out.bel).at_ hlt
              obtain ⟨b2, o2, rfl, _, hc2⟩ := (K'.out.below HB2.out.bel).at_ hlt'
              have hkI : (k : Int) < (L.length : Int) := by omega
              have HXY : Hid (∀ x y, L[k] = x → L'[k] = y → (x = y → ∀ j (h1 : j < L.length) (h2 : j < L'.length), j < k + 1 → L[j] = L'[j]) ∧ (¬ x = y → ¬ L = L')) := by
                intro x y hx hy
                refine ⟨fun e j h1 h2 hj => ?_, fun e e2 => ?_⟩
                · by_cases hjk : j < k
                  · exact HA.out j h1 h2 hjk
                  · obtain rfl : j = k := by omega
                    rw [hx, hy, e]
                · subst e2
                  exact e (hx.symm.trans hy)
              generalize hx : L[k] = x at hc1
              generalize hy : L'[k] = y at hc2
              have HC := Lib.hid (HXY.out x y hx hy)
              clear hx hy HXY hlt'
              by_cases hxy : x = y
              · have HN := Lib.hid (HC.out.1 hxy)
                subst hxy
                go_wp2_with fail
                go_region
                go_wp2
                go_roundw
                case rel => exact ⟨k + 1, by go_num, by omega, HB2.out.below (bel_D _), HN.out⟩
                case measure => simp [intOf] <;> omega
              · have HN := Lib.hid (HC.out.2 hxy)
                go_wp2_with fail
                go_region
                go_wp2
                go_ret
                exact ⟨ret_bool (by rw [decide_eq_false HN.out, Bool.and_false]), (HB2.out.below (bel_D _)).bel⟩
            · obtain rfl : k = L.length := by omega
              have HE2 : Hid (L = L') := List.ext_getElem HLL.out.symm fun j h1 h2 => HA.out j h1 h2 h1
              go_wp2
              go_ret
              exact ⟨ret_bool (by rw [decide_eq_true HE.out, decide_eq_true HE2.out]; rfl), HB2.out.bel⟩
    · have HLT := Lib.hid hlt
      rw [hlt] at HB ⊢
      clear hlt
      have HN : Hid (¬ L = L') := fun e => hll (by rw [e])
      have hneI : ¬ (L.length : Int) = (L'.length : Int) := by omega
      go_enter Try.func67, Try.ntmps67
      obtain ⟨x0, x1, _, _⟩ := HB.out.a
      obtain ⟨y0, y1, _, _⟩ := HB.out.b
      go_wp2_with fail
      go_ret
      exact ⟨ret_bool (by rw [decide_eq_false HN.out, Bool.and_false]), HB.out.bel⟩
  · have HN : Hid (¬ T = T') := fun e => hlt (by rw [e])
    have hneI : ¬ (T.length : Int) = (T'.length : Int) := by omega
    go_enter Try.func67, Try.ntmps67
    obtain ⟨x0, x1, _, _⟩ := HB.out.a
    obtain ⟨y0, y1, _, _⟩ := HB.out.b
    go_wp2_with fail
    go_ret
    exact ⟨ret_bool (by rw [decide_eq_false HN.out]; rfl), HB.out.bel⟩
end Go.Proofs.Ytghnanojmgddfaa

namespace Go.Proofs.Ytghnanojmgddfaa
open Go.RowKit
set_option linter.unusedVariables false

theorem dk_small {side : Int} {l d : List Int} {ax ay : Int} (hr : gridRight side l = true) (hd : GDist side l ax ay d) {k : Nat} (hk : k < l.length) : -1 ≤ dk d k ∧ dk d k ≤ 1300 := by
  rcases hd.lab k hk with e | ⟨h0, hw⟩
  · omega
  · refine ⟨by omega, ?_⟩
    generalize hx : dk d k = x at hw
    cases hw with
    | here => omega
    | @step i _ x hw he =>
      obtain ⟨x1, y1, u, v, h1, h2, h3, rfl, rfl⟩ := he
      have := sum_le hr hd (p := ⟨u, v⟩) h2
      simp only at this
      omega
theorem flatD_get {D : Nat → List Int} {m : Nat} : ∀ {n : Nat}, (∀ j, j < n → (D j).length = m) → (flatD D n).length = n * m ∧ ∀ i k, i < n → k < m → (flatD D n)[i * m + k]? = (D i)[k]?
  | 0, _ => ⟨by simp [flatD], fun i k h => absurd h (Nat.not_lt_zero _)⟩
  | n + 1, hl => by
    obtain ⟨h1, h2⟩ := flatD_get (n := n) fun j hj => hl j (by omega)
    have hn := hl n (by omega)
    have e1 : (n + 1) * m = n * m + m := Nat.succ_mul n m
    refine ⟨by rw [flatD_succ, List.length_append, h1, hn, e1], fun i k hi hk => ?_⟩
    rw [flatD_succ]
    by_cases hin : i < n
    · have : i * m + m ≤ n * m := by have := Nat.mul_le_mul_right m (show i + 1 ≤ n from hin); rw [Nat.succ_mul] at this; exact this
      rw [List.getElem?_append_left (by omega)]
      exact h2 i k hin hk
    · obtain rfl : i = n := by omega
      rw [List.getElem?_append_right (by omega), h1]
      congr 1
      omega
/-- What one mark says besides. -/
def bnd1 (x y n : Int) : Option Int := if decide (x < 0) != decide (y < 0) then none else some (if 0 ≤ x then (if x ≥ y then max n (x - y) else max n (y - x)) else n)
/-- What the first k marks say. -/
def bndTo (D : Nat → List Int) (pa pb : Nat) : Nat → Option Int
  | 0 => some 0
  | k + 1 => (bndTo D pa pb k).bind fun n => bnd1 (dk (D k) pa) (dk (D k) pb) n
theorem bndTo_none {D : Nat → List Int} {pa pb k : Nat} (h : bndTo D pa pb k = none) : ∀ n, k ≤ n → bndTo D pa pb n = none
  | 0, hk => by obtain rfl : k = 0 := by omega
                exact h
  | n + 1, hk => by
    by_cases e : k = n + 1
    · rw [← e]; exact h
    · have := bndTo_none h n (by omega)
      simp [bndTo, this]
theorem bnd1_small {x y n m : Int} (h : bnd1 x y n = some m) (hn : 0 ≤ n ∧ n ≤ 1301) (hx : -1 ≤ x ∧ x ≤ 1300) (hy : -1 ≤ y ∧ y ≤ 1300) : 0 ≤ m ∧ m ≤ 1301 := by
  unfold bnd1 at h
  split at h
  · cases h
  · injection h with h
    split at h
    · split at h <;> omega
    · omega
theorem bndTo_small {D : Nat → List Int} {pa pb : Nat} : ∀ {k : Nat} {m : Int}, bndTo D pa pb k = some m → (∀ j, j < k → (-1 ≤ dk (D j) pa ∧ dk (D j) pa ≤ 1300) ∧ (-1 ≤ dk (D j) pb ∧ dk (D j) pb ≤ 1300)) → 0 ≤ m ∧ m ≤ 1301
  | 0, m, h, _ => by
    simp only [bndTo, Option.some.injEq] at h
    omega
  | k + 1, m, h, hd => by
    simp only [bndTo] at h
    cases hb : bndTo D pa pb k with
    | none => rw [hb] at h; cases h
    | some n =>
      rw [hb] at h
      exact bnd1_small h (bndTo_small hb fun j hj => hd j (by omega)) (hd k (by omega)).1 (hd k (by omega)).2
/-- What Bound answers. -/
def boundOut (side : Int) (l : List Int) (T : List Pl) (L : List Int) (ax ay bx b_y : Int) (D : Nat → List Int) : Int :=
  if gridRight side l && (gridIn side ax ay && gridIn side bx b_y) && (decide (T = bakeM side l T) && decide (L = bakeD side l T D)) then (bndTo D (pn side ax ay) (pn side bx b_y) T.length).getD (-1) else -1
theorem boundOut_ok {side : Int} {l : List Int} {T : List Pl} {D : Nat → List Int} (h : T = bakeM side l T) (hr : gridRight side l = true) : bakeOk side l T = true := by
  unfold bakeM at h
  cases hb : bakeOk side l T
  · rw [hb] at h
    simp only [Bool.false_eq_true, if_false] at h
    subst h
    simp [bakeOk, hr] at hb
  · rfl
end Go.Proofs.Ytghnanojmgddfaa

namespace Go.Proofs.Ytghnanojmgddfaa
open Go.RowKit
set_option linter.unusedVariables false
set_option linter.unusedSimpArgs false

/-- The boxes of a map, tables and two places. -/
structure B5 (w : World) (side : Int) (A : Option Addr) (c : Nat) (l : List Int) (v1 v2 : Value) (ax ay bx b_y : Int) (wr : World) : Prop where
  g : GB wr w.heap.size side (.slice A l.length c)
  t : TB wr (w.heap.size + 1) v1 v2
  a : PlB wr (w.heap.size + 1 + 1) ax ay
  b : PlB wr (w.heap.size + 1 + 1 + 1) bx b_y
  bel : Below w.heap.size w wr
  siz : w.heap.size + 1 + 1 + 1 < wr.heap.size
theorem B5.below {w wr wr' : World} {side : Int} {A : Option Addr} {c : Nat} {l : List Int} {v1 v2 : Value} {ax ay bx b_y : Int} (h : B5 w side A c l v1 v2 ax ay bx b_y wr) (hb : Below wr.heap.size wr wr') : B5 w side A c l v1 v2 ax ay bx b_y wr' := by
  have hz := h.siz
  exact ⟨h.g.below hb (by omega), h.t.below hb (by omega), h.a.below hb (by omega), h.b.below hb hz, h.bel.trans (hb.mono (by omega)), Nat.lt_of_lt_of_le hz hb.size⟩
theorem B5.made (w : World) (side : Int) (A : Option Addr) (c : Nat) (l : List Int) (v1 v2 : Value) (ax ay bx b_y : Int) : B5 w side A c l v1 v2 ax ay bx b_y ((((w.alloc (.cells #[.int .i64 side, .slice A l.length c] 25)).alloc (.cells #[v1, v2] 45)).alloc (.cells #[.int .i64 ax, .int .i64 ay] 27)).alloc (.cells #[.int .i64 bx, .int .i64 b_y] 27)) := by
  refine ⟨⟨by simp [go_sem], by simp [go_sem], by simp [go_sem], by simp [go_sem]⟩, ⟨by simp [go_sem], by simp [go_sem], by simp [go_sem], by simp [go_sem]⟩, ⟨by simp [go_sem], by simp [go_sem]⟩, ⟨by simp [go_sem], by simp [go_sem]⟩, bel_T (bel_A _ _) (bel_T (bel_A _ _) (bel_T (bel_A _ _) (bel_A _ _))), by simp⟩
theorem mMax_any (x y : Int) (w : World) : Calls Try.prog 68 #[.int .i64 x, .int .i64 y] w fun e w' => e = .returned (.int .i64 (max x y)) ∧ w = w' := by
  by_cases h : x > y
  · have hm : max x y = x := by omega
    rw [hm]
    go_enter Try.func68, Try.ntmps68
    go_wp2
    go_ret
    exact ⟨rfl, rfl⟩
  · have hm : max x y = y := by omega
    rw [hm]
    go_enter Try.func68, Try.ntmps68
    go_wp2
    go_ret
    exact ⟨rfl, rfl⟩

set_option maxRecDepth 100000 in
set_option maxHeartbeats 8000000 in
theorem mBound_any (side : Int) (A : Option Addr) (c : Nat) (l : List Int) (bm offm cm : Nat) (T : List Pl) (AL : Option Addr) (cL : Nat) (Ld : List Int) (ax ay bx b_y : Int) (D : Nat → List Int) (w : World) (h : RI w w.heap.size A l) (hT : RPl w w.heap.size (some ⟨bm, offm, none⟩) T) (hLd : RI w w.heap.size AL Ld) (hl : l.length ≤ 1000000000) (hTl : T.length ≤ 1100000) (hLl : Ld.length ≤ 1000000000) (hd : IsB side l T D) :
    Calls Try.prog 25 #[.agg #[.int .i64 side, .slice A l.length c], .agg #[.slice (some ⟨bm, offm, none⟩) T.length cm, .slice AL Ld.length cL], .agg #[.int .i64 ax, .int .i64 ay], .agg #[.int .i64 bx, .int .i64 b_y]] w fun e w' => e = .returned (.int .i64 (boundOut side l T Ld ax ay bx b_y D)) ∧ Below w.heap.size w w' := by
  have HB := Lib.hid (B5.made w side A c l (.slice (some ⟨bm, offm, none⟩) T.length cm) (.slice AL Ld.length cL) ax ay bx b_y)
  have H := Lib.hid h
  have HT := Lib.hid hT
  have HL := Lib.hid hLd
  have hR := fun w h => mRight_any side A c l w h hl
  have HS : Hid (∀ w', B5 w side A c l (.slice (some ⟨bm, offm, none⟩) T.length cm) (.slice AL Ld.length cL) ax ay bx b_y w' → w'.cell? ⟨w.heap.size, 0, none⟩ = some (.int .i64 side) ∧ w'.cell? ⟨w.heap.size, 1, none⟩ = some (.slice A l.length c) ∧ w'.cell? ⟨w.heap.size + 1, 0, none⟩ = some (.slice (some ⟨bm, offm, none⟩) T.length cm) ∧ w'.cell? ⟨w.heap.size + 1, 1, none⟩ = some (.slice AL Ld.length cL) ∧ w'.cell? ⟨w.heap.size + 1 + 1, 0, none⟩ = some (.int .i64 ax) ∧ w'.cell? ⟨w.heap.size + 1 + 1, 1, none⟩ = some (.int .i64 ay) ∧ w'.cell? ⟨w.heap.size + 1 + 1 + 1, 0, none⟩ = some (.int .i64 bx) ∧ w'.cell? ⟨w.heap.size + 1 + 1 + 1, 1, none⟩ = some (.int .i64 b_y)) := fun w' h => ⟨h.g.c0, h.g.c1, h.t.c0, h.t.c1, h.a.c0, h.a.c1, h.b.c0, h.b.c1⟩
  have hBk := fun w h hm => mBake_any side A c l bm offm cm T D w h hm hl hTl hd
  have hML := bakeM_len side l T
  have hDL := bakeD_len hd
  clear h hT hLd
  cases hr : gridRight side l
  · rw [hr] at hR
    have HE : Hid (boundOut side l T Ld ax ay bx b_y D = -1) := by show _ = _; unfold boundOut; rw [hr]; rfl
    rw [HE.out]
    clear HE hr hBk hML hDL hd hTl hLl
    go_enter Try.func25, Try.ntmps25
    go_upto_region 1 with fail
    have q0 := HB.out.below (bel_D _)
    have hkeep := HS.out _ q0
    refine wp_region_noPanic ?_
    refine wp_region_held_drew (S := (fun w' => w'.cell? ⟨w.heap.size, 0, none⟩ = some (.int .i64 side) ∧ w'.cell? ⟨w.heap.size, 1, none⟩ = some (.slice A l.length c) ∧ w'.cell? ⟨w.heap.size + 1, 0, none⟩ = some (.slice (some ⟨bm, offm, none⟩) T.length cm) ∧ w'.cell? ⟨w.heap.size + 1, 1, none⟩ = some (.slice AL Ld.length cL) ∧ w'.cell? ⟨w.heap.size + 1 + 1, 0, none⟩ = some (.int .i64 ax) ∧ w'.cell? ⟨w.heap.size + 1 + 1, 1, none⟩ = some (.int .i64 ay) ∧ w'.cell? ⟨w.heap.size + 1 + 1 + 1, 0, none⟩ = some (.int .i64 bx) ∧ w'.cell? ⟨w.heap.size + 1 + 1 + 1, 1, none⟩ = some (.int .i64 b_y))) (by kernel_rfl) hkeep (fun hHeld => ?_)
    refine wpAnyH_take (i := 0) (v := ?_) rfl (by kernel_rfl) (by kernel_rfl) (by kernel_rfl) (fun _ _ _ h => h) (Or.inl ⟨by rfl, ?_⟩) (by assumption) ?_
    rotate_left 1
    · (intro w' hSw; (try dsimp only at hSw); go_simp <;> with_reducible rfl)
    simp only [Act.put, List.getElem_toArray, List.getElem_cons_succ, List.getElem_cons_zero, List.setIfInBounds_toArray, List.set_cons_zero, List.set_cons_succ]
    refine wpAnyH_ready (rs := [1]) (by kernel_rfl) (by simp) ?_
    refine (AllReadyH.cons rfl (fun K hK => ?_) AllReadyH.nil)
    go_simp
    (go_at_call 45; refine (hR _ ((H.out.below q0.bel).mono q0.bel.size)).mono ?_; rintro e v1 ⟨rfl, hb⟩; clear hkeep; have q1 := q0.below hb; have hkeep := HS.out _ q1; clear hb)
    try go_wp2_with fail
    refine hK.out _ _ ?_ (fun hHeld => ?_)
    · (first | (with_reducible exact hkeep) | go_keep)
    clear hK K
    try simp only [Act.put, List.getElem_toArray, List.getElem_cons_succ, List.getElem_cons_zero, List.setIfInBounds_toArray, List.set_cons_zero, List.set_cons_succ]
    refine wpAnyH_take (i := 2) (v := ?_) rfl (by kernel_rfl) (by kernel_rfl) (by kernel_rfl) (fun _ _ _ h => h) (Or.inl ⟨by rfl, ?_⟩) (by assumption) ?_
    rotate_left 1
    · (intro w' hSw; (try dsimp only at hSw); go_simp <;> with_reducible rfl)
    simp only [Act.put, List.getElem_toArray, List.getElem_cons_succ, List.getElem_cons_zero, List.setIfInBounds_toArray, List.set_cons_zero, List.set_cons_succ]
    refine wpAnyH_take (i := 3) (v := ?_) rfl (by kernel_rfl) (by kernel_rfl) (by kernel_rfl) (fun _ _ _ h => h) (Or.inl ⟨by rfl, ?_⟩) (by assumption) ?_
    rotate_left 1
    · (intro w' hSw; (try dsimp only at hSw); go_simp <;> with_reducible rfl)
    simp only [Act.put, List.getElem_toArray, List.getElem_cons_succ, List.getElem_cons_zero, List.setIfInBounds_toArray, List.set_cons_zero, List.set_cons_succ]
    refine wpAnyH_take (i := 4) (v := undef) rfl (by kernel_rfl) (by kernel_rfl) (by kernel_rfl) (fun _ _ _ h => h) (Or.inr ⟨by kernel_rfl, rfl⟩) (by assumption) ?_
    simp only [Act.put, List.getElem_toArray, List.getElem_cons_succ, List.getElem_cons_zero, List.setIfInBounds_toArray, List.set_cons_zero, List.set_cons_succ]
    refine wpAnyH_take (i := 5) (v := undef) rfl (by kernel_rfl) (by kernel_rfl) (by kernel_rfl) (fun _ _ _ h => h) (Or.inr ⟨by kernel_rfl, rfl⟩) (by assumption) ?_
    simp only [Act.put, List.getElem_toArray, List.getElem_cons_succ, List.getElem_cons_zero, List.setIfInBounds_toArray, List.set_cons_zero, List.set_cons_succ]
    refine wpAnyH_take (i := 6) (v := undef) rfl (by kernel_rfl) (by kernel_rfl) (by kernel_rfl) (fun _ _ _ h => h) (Or.inr ⟨by kernel_rfl, rfl⟩) (by assumption) ?_
    simp only [Act.put, List.getElem_toArray, List.getElem_cons_succ, List.getElem_cons_zero, List.setIfInBounds_toArray, List.set_cons_zero, List.set_cons_succ]
    refine wpAnyH_take (i := 7) (v := undef) rfl (by kernel_rfl) (by kernel_rfl) (by kernel_rfl) (fun _ _ _ h => h) (Or.inr ⟨by kernel_rfl, rfl⟩) (by assumption) ?_
    simp only [Act.put, List.getElem_toArray, List.getElem_cons_succ, List.getElem_cons_zero, List.setIfInBounds_toArray, List.set_cons_zero, List.set_cons_succ]
    refine wpAnyH_take (i := 8) (v := undef) rfl (by kernel_rfl) (by kernel_rfl) (by kernel_rfl) (fun _ _ _ h => h) (Or.inr ⟨by kernel_rfl, rfl⟩) (by assumption) ?_
    simp only [Act.put, List.getElem_toArray, List.getElem_cons_succ, List.getElem_cons_zero, List.setIfInBounds_toArray, List.set_cons_zero, List.set_cons_succ]
    refine wpAnyH_ready (rs := [9]) (by kernel_rfl) (by simp) ?_
    refine (AllReadyH.cons rfl (fun K hK => ?_) AllReadyH.nil)
    rw [if_neg (show ¬ (_ = true) from fun h => Bool.noConfusion ((show _ = false by kernel_rfl).symm.trans h))]
    refine hK.out _ _ ?_ (fun hHeld => ?_)
    · (first | (with_reducible exact hkeep) | go_keep)
    clear hK K
    try simp only [Act.put, List.getElem_toArray, List.getElem_cons_succ, List.getElem_cons_zero, List.setIfInBounds_toArray, List.set_cons_zero, List.set_cons_succ]
    refine wpAnyH_take (i := 10) (v := undef) rfl (by kernel_rfl) (by kernel_rfl) (by kernel_rfl) (fun _ _ _ h => h) (Or.inr ⟨by kernel_rfl, rfl⟩) (by assumption) ?_
    simp only [Act.put, List.getElem_toArray, List.getElem_cons_succ, List.getElem_cons_zero, List.setIfInBounds_toArray, List.set_cons_zero, List.set_cons_succ]
    refine wpAnyH_take (i := 11) (v := ?_) rfl (by kernel_rfl) (by kernel_rfl) (by kernel_rfl) (fun _ _ _ h => h) (Or.inl ⟨by rfl, ?_⟩) (by assumption) ?_
    rotate_left 1
    · (intro w' hSw; (try dsimp only at hSw); go_simp <;> with_reducible rfl)
    simp only [Act.put, List.getElem_toArray, List.getElem_cons_succ, List.getElem_cons_zero, List.setIfInBounds_toArray, List.set_cons_zero, List.set_cons_succ]
    refine wpAnyH_take (i := 12) (v := ?_) rfl (by kernel_rfl) (by kernel_rfl) (by kernel_rfl) (fun _ _ _ h => h) (Or.inl ⟨by rfl, ?_⟩) (by assumption) ?_
    rotate_left 1
    · (intro w' hSw; (try dsimp only at hSw); go_simp <;> with_reducible rfl)
    simp only [Act.put, List.getElem_toArray, List.getElem_cons_succ, List.getElem_cons_zero, List.setIfInBounds_toArray, List.set_cons_zero, List.set_cons_succ]
    refine wpAnyH_take (i := 13) (v := undef) rfl (by kernel_rfl) (by kernel_rfl) (by kernel_rfl) (fun _ _ _ h => h) (Or.inr ⟨by kernel_rfl, rfl⟩) (by assumption) ?_
    simp only [Act.put, List.getElem_toArray, List.getElem_cons_succ, List.getElem_cons_zero, List.setIfInBounds_toArray, List.set_cons_zero, List.set_cons_succ]
    refine wpAnyH_take (i := 14) (v := undef) rfl (by kernel_rfl) (by kernel_rfl) (by kernel_rfl) (fun _ _ _ h => h) (Or.inr ⟨by kernel_rfl, rfl⟩) (by assumption) ?_
    simp only [Act.put, List.getElem_toArray, List.getElem_cons_succ, List.getElem_cons_zero, List.setIfInBounds_toArray, List.set_cons_zero, List.set_cons_succ]
    refine wpAnyH_take (i := 15) (v := undef) rfl (by kernel_rfl) (by kernel_rfl) (by kernel_rfl) (fun _ _ _ h => h) (Or.inr ⟨by kernel_rfl, rfl⟩) (by assumption) ?_
    simp only [Act.put, List.getElem_toArray, List.getElem_cons_succ, List.getElem_cons_zero, List.setIfInBounds_toArray, List.set_cons_zero, List.set_cons_succ]
    refine wpAnyH_take (i := 16) (v := undef) rfl (by kernel_rfl) (by kernel_rfl) (by kernel_rfl) (fun _ _ _ h => h) (Or.inr ⟨by kernel_rfl, rfl⟩) (by assumption) ?_
    simp only [Act.put, List.getElem_toArray, List.getElem_cons_succ, List.getElem_cons_zero, List.setIfInBounds_toArray, List.set_cons_zero, List.set_cons_succ]
    refine wpAnyH_take (i := 17) (v := undef) rfl (by kernel_rfl) (by kernel_rfl) (by kernel_rfl) (fun _ _ _ h => h) (Or.inr ⟨by kernel_rfl, rfl⟩) (by assumption) ?_
    simp only [Act.put, List.getElem_toArray, List.getElem_cons_succ, List.getElem_cons_zero, List.setIfInBounds_toArray, List.set_cons_zero, List.set_cons_succ]
    refine wpAnyH_ready (rs := [18]) (by kernel_rfl) (by simp) ?_
    refine (AllReadyH.cons rfl (fun K hK => ?_) AllReadyH.nil)
    rw [if_neg (show ¬ (_ = true) from fun h => Bool.noConfusion ((show _ = false by kernel_rfl).symm.trans h))]
    refine hK.out _ _ ?_ (fun hHeld => ?_)
    · (first | (with_reducible exact hkeep) | go_keep)
    clear hK K
    try simp only [Act.put, List.getElem_toArray, List.getElem_cons_succ, List.getElem_cons_zero, List.setIfInBounds_toArray, List.set_cons_zero, List.set_cons_succ]
    refine wpAnyH_take (i := 19) (v := undef) rfl (by kernel_rfl) (by kernel_rfl) (by kernel_rfl) (fun _ _ _ h => h) (Or.inr ⟨by kernel_rfl, rfl⟩) (by assumption) ?_
    simp only [Act.put, List.getElem_toArray, List.getElem_cons_succ, List.getElem_cons_zero, List.setIfInBounds_toArray, List.set_cons_zero, List.set_cons_succ]
    refine wpAnyH_take (i := 20) (v := ?_) rfl (by kernel_rfl) (by kernel_rfl) (by kernel_rfl) (fun _ _ _ h => h) (Or.inl ⟨by rfl, ?_⟩) (by assumption) ?_
    rotate_left 1
    · (intro w' hSw; (try dsimp only at hSw); go_simp <;> with_reducible rfl)
    simp only [Act.put, List.getElem_toArray, List.getElem_cons_succ, List.getElem_cons_zero, List.setIfInBounds_toArray, List.set_cons_zero, List.set_cons_succ]
    refine wpAnyH_take (i := 21) (v := ?_) rfl (by kernel_rfl) (by kernel_rfl) (by kernel_rfl) (fun _ _ _ h => h) (Or.inl ⟨by rfl, ?_⟩) (by assumption) ?_
    rotate_left 1
    · (intro w' hSw; (try dsimp only at hSw); go_simp <;> with_reducible rfl)
    simp only [Act.put, List.getElem_toArray, List.getElem_cons_succ, List.getElem_cons_zero, List.setIfInBounds_toArray, List.set_cons_zero, List.set_cons_succ]
    refine wpAnyH_take (i := 22) (v := undef) rfl (by kernel_rfl) (by kernel_rfl) (by kernel_rfl) (fun _ _ _ h => h) (Or.inr ⟨by kernel_rfl, rfl⟩) (by assumption) ?_
    simp only [Act.put, List.getElem_toArray, List.getElem_cons_succ, List.getElem_cons_zero, List.setIfInBounds_toArray, List.set_cons_zero, List.set_cons_succ]
    refine wpAnyH_take (i := 23) (v := undef) rfl (by kernel_rfl) (by kernel_rfl) (by kernel_rfl) (fun _ _ _ h => h) (Or.inr ⟨by kernel_rfl, rfl⟩) (by assumption) ?_
    simp only [Act.put, List.getElem_toArray, List.getElem_cons_succ, List.getElem_cons_zero, List.setIfInBounds_toArray, List.set_cons_zero, List.set_cons_succ]
    refine wpAnyH_take (i := 24) (v := undef) rfl (by kernel_rfl) (by kernel_rfl) (by kernel_rfl) (fun _ _ _ h => h) (Or.inr ⟨by kernel_rfl, rfl⟩) (by assumption) ?_
    simp only [Act.put, List.getElem_toArray, List.getElem_cons_succ, List.getElem_cons_zero, List.setIfInBounds_toArray, List.set_cons_zero, List.set_cons_succ]
    refine wpAnyH_take (i := 25) (v := undef) rfl (by kernel_rfl) (by kernel_rfl) (by kernel_rfl) (fun _ _ _ h => h) (Or.inr ⟨by kernel_rfl, rfl⟩) (by assumption) ?_
    simp only [Act.put, List.getElem_toArray, List.getElem_cons_succ, List.getElem_cons_zero, List.setIfInBounds_toArray, List.set_cons_zero, List.set_cons_succ]
    refine wpAnyH_ready (rs := [26]) (by kernel_rfl) (by simp) ?_
    refine (AllReadyH.cons rfl (fun K hK => ?_) AllReadyH.nil)
    rw [if_neg (show ¬ (_ = true) from fun h => Bool.noConfusion ((show _ = false by kernel_rfl).symm.trans h))]
    refine hK.out _ _ ?_ (fun hHeld => ?_)
    · (first | (with_reducible exact hkeep) | go_keep)
    clear hK K
    try simp only [Act.put, List.getElem_toArray, List.getElem_cons_succ, List.getElem_cons_zero, List.setIfInBounds_toArray, List.set_cons_zero, List.set_cons_succ]
    refine wpAnyH_ready (rs := [27]) (by kernel_rfl) (by simp) ?_
    refine (AllReadyH.cons rfl (fun K hK => ?_) AllReadyH.nil)
    rw [if_neg (show ¬ (_ = true) from fun h => Bool.noConfusion ((show _ = false by kernel_rfl).symm.trans h))]
    refine hK.out _ _ ?_ (fun hHeld => ?_)
    · (first | (with_reducible exact hkeep) | go_keep)
    clear hK K
    try simp only [Act.put, List.getElem_toArray, List.getElem_cons_succ, List.getElem_cons_zero, List.setIfInBounds_toArray, List.set_cons_zero, List.set_cons_succ]
    refine wpAnyH_take (i := 28) (v := undef) rfl (by kernel_rfl) (by kernel_rfl) (by kernel_rfl) (fun _ _ _ h => h) (Or.inr ⟨by kernel_rfl, rfl⟩) (by assumption) ?_
    simp only [Act.put, List.getElem_toArray, List.getElem_cons_succ, List.getElem_cons_zero, List.setIfInBounds_toArray, List.set_cons_zero, List.set_cons_succ]
    refine wpAnyH_take (i := 29) (v := ?_) rfl (by kernel_rfl) (by kernel_rfl) (by kernel_rfl) (fun _ _ _ h => h) (Or.inl ⟨by rfl, ?_⟩) (by assumption) ?_
    rotate_left 1
    · (intro w' hSw; (try dsimp only at hSw); go_simp <;> with_reducible rfl)
    simp only [Act.put, List.getElem_toArray, List.getElem_cons_succ, List.getElem_cons_zero, List.setIfInBounds_toArray, List.set_cons_zero, List.set_cons_succ]
    refine wpAnyH_done (by kernel_rfl) ?_ _
    refine NoPanic.normal ?_
    have Q9 := Lib.hid q1
    clear hkeep q0 q1
    go_wp2_with fail
    go_ret
    exact ⟨rfl, Q9.out.bel⟩
  · have hs := (right_parts hr).1
    have hI1 := fun w => mIn_any side ax ay A l.length c w hs
    have hI2 := fun w => mIn_any side bx b_y A l.length c w hs
    rw [hr] at hR
    cases hi : gridIn side ax ay
    · rw [hi] at hI1
      have HE : Hid (boundOut side l T Ld ax ay bx b_y D = -1) := by show _ = _; unfold boundOut; rw [hr, hi]; rfl
      rw [HE.out]
      clear HE hr hi hI2 hBk hML hDL hd hTl hLl hs
      go_enter Try.func25, Try.ntmps25
      go_upto_region 1 with fail
      have q0 := HB.out.below (bel_D _)
      have hkeep := HS.out _ q0
      refine wp_region_noPanic ?_
      refine wp_region_held_drew (S := (fun w' => w'.cell? ⟨w.heap.size, 0, none⟩ = some (.int .i64 side) ∧ w'.cell? ⟨w.heap.size, 1, none⟩ = some (.slice A l.length c) ∧ w'.cell? ⟨w.heap.size + 1, 0, none⟩ = some (.slice (some ⟨bm, offm, none⟩) T.length cm) ∧ w'.cell? ⟨w.heap.size + 1, 1, none⟩ = some (.slice AL Ld.length cL) ∧ w'.cell? ⟨w.heap.size + 1 + 1, 0, none⟩ = some (.int .i64 ax) ∧ w'.cell? ⟨w.heap.size + 1 + 1, 1, none⟩ = some (.int .i64 ay) ∧ w'.cell? ⟨w.heap.size + 1 + 1 + 1, 0, none⟩ = some (.int .i64 bx) ∧ w'.cell? ⟨w.heap.size + 1 + 1 + 1, 1, none⟩ = some (.int .i64 b_y))) (by kernel_rfl) hkeep (fun hHeld => ?_)
      refine wpAnyH_take (i := 0) (v := ?_) rfl (by kernel_rfl) (by kernel_rfl) (by kernel_rfl) (fun _ _ _ h => h) (Or.inl ⟨by rfl, ?_⟩) (by assumption) ?_
      rotate_left 1
      · (intro w' hSw; (try dsimp only at hSw); go_simp <;> with_reducible rfl)
      simp only [Act.put, List.getElem_toArray, List.getElem_cons_succ, List.getElem_cons_zero, List.setIfInBounds_toArray, List.set_cons_zero, List.set_cons_succ]
      refine wpAnyH_ready (rs := [1]) (by kernel_rfl) (by simp) ?_
      refine (AllReadyH.cons rfl (fun K hK => ?_) AllReadyH.nil)
      go_simp
      (go_at_call 45; refine (hR _ ((H.out.below q0.bel).mono q0.bel.size)).mono ?_; rintro e v1 ⟨rfl, hb⟩; clear hkeep; have q1 := q0.below hb; have hkeep := HS.out _ q1; clear hb)
      try go_wp2_with fail
      refine hK.out _ _ ?_ (fun hHeld => ?_)
      · (first | (with_reducible exact hkeep) | go_keep)
      clear hK K
      try simp only [Act.put, List.getElem_toArray, List.getElem_cons_succ, List.getElem_cons_zero, List.setIfInBounds_toArray, List.set_cons_zero, List.set_cons_succ]
      refine wpAnyH_take (i := 2) (v := ?_) rfl (by kernel_rfl) (by kernel_rfl) (by kernel_rfl) (fun _ _ _ h => h) (Or.inl ⟨by rfl, ?_⟩) (by assumption) ?_
      rotate_left 1
      · (intro w' hSw; (try dsimp only at hSw); go_simp <;> with_reducible rfl)
      simp only [Act.put, List.getElem_toArray, List.getElem_cons_succ, List.getElem_cons_zero, List.setIfInBounds_toArray, List.set_cons_zero, List.set_cons_succ]
      refine wpAnyH_take (i := 3) (v := ?_) rfl (by kernel_rfl) (by kernel_rfl) (by kernel_rfl) (fun _ _ _ h => h) (Or.inl ⟨by rfl, ?_⟩) (by assumption) ?_
      rotate_left 1
      · (intro w' hSw; (try dsimp only at hSw); go_simp <;> with_reducible rfl)
      simp only [Act.put, List.getElem_toArray, List.getElem_cons_succ, List.getElem_cons_zero, List.setIfInBounds_toArray, List.set_cons_zero, List.set_cons_succ]
      refine wpAnyH_take (i := 4) (v := ?_) rfl (by kernel_rfl) (by kernel_rfl) (by kernel_rfl) (fun _ _ _ h => h) (Or.inl ⟨by rfl, ?_⟩) (by assumption) ?_
      rotate_left 1
      · (intro w' hSw; (try dsimp only at hSw); go_simp <;> with_reducible rfl)
      simp only [Act.put, List.getElem_toArray, List.getElem_cons_succ, List.getElem_cons_zero, List.setIfInBounds_toArray, List.set_cons_zero, List.set_cons_succ]
      refine wpAnyH_take (i := 5) (v := ?_) rfl (by kernel_rfl) (by kernel_rfl) (by kernel_rfl) (fun _ _ _ h => h) (Or.inl ⟨by rfl, ?_⟩) (by assumption) ?_
      rotate_left 1
      · (intro w' hSw; (try dsimp only at hSw); go_simp <;> with_reducible rfl)
      simp only [Act.put, List.getElem_toArray, List.getElem_cons_succ, List.getElem_cons_zero, List.setIfInBounds_toArray, List.set_cons_zero, List.set_cons_succ]
      refine wpAnyH_take (i := 6) (v := ?_) rfl (by kernel_rfl) (by kernel_rfl) (by kernel_rfl) (fun _ _ _ h => h) (Or.inl ⟨by rfl, ?_⟩) (by assumption) ?_
      rotate_left 1
      · (intro w' hSw; (try dsimp only at hSw); go_simp <;> with_reducible rfl)
      simp only [Act.put, List.getElem_toArray, List.getElem_cons_succ, List.getElem_cons_zero, List.setIfInBounds_toArray, List.set_cons_zero, List.set_cons_succ]
      refine wpAnyH_take (i := 7) (v := ?_) rfl (by kernel_rfl) (by kernel_rfl) (by kernel_rfl) (fun _ _ _ h => h) (Or.inl ⟨by rfl, ?_⟩) (by assumption) ?_
      rotate_left 1
      · (intro w' hSw; (try dsimp only at hSw); go_simp <;> with_reducible rfl)
      simp only [Act.put, List.getElem_toArray, List.getElem_cons_succ, List.getElem_cons_zero, List.setIfInBounds_toArray, List.set_cons_zero, List.set_cons_succ]
      refine wpAnyH_take (i := 8) (v := ?_) rfl (by kernel_rfl) (by kernel_rfl) (by kernel_rfl) (fun _ _ _ h => h) (Or.inl ⟨by rfl, ?_⟩) (by assumption) ?_
      rotate_left 1
      · (intro w' hSw; (try dsimp only at hSw); go_simp <;> with_reducible rfl)
      simp only [Act.put, List.getElem_toArray, List.getElem_cons_succ, List.getElem_cons_zero, List.setIfInBounds_toArray, List.set_cons_zero, List.set_cons_succ]
      refine wpAnyH_ready (rs := [9]) (by kernel_rfl) (by simp) ?_
      refine (AllReadyH.cons rfl (fun K hK => ?_) AllReadyH.nil)
      go_simp
      (go_at_call 46; refine (hI1 _).mono ?_; rintro e v2 ⟨rfl, hb⟩; clear hkeep; have q2 := q1.below hb; have hkeep := HS.out _ q2; clear hb)
      try go_wp2_with fail
      refine hK.out _ _ ?_ (fun hHeld => ?_)
      · (first | (with_reducible exact hkeep) | go_keep)
      clear hK K
      try simp only [Act.put, List.getElem_toArray, List.getElem_cons_succ, List.getElem_cons_zero, List.setIfInBounds_toArray, List.set_cons_zero, List.set_cons_succ]
      refine wpAnyH_take (i := 10) (v := ?_) rfl (by kernel_rfl) (by kernel_rfl) (by kernel_rfl) (fun _ _ _ h => h) (Or.inl ⟨by rfl, ?_⟩) (by assumption) ?_
      rotate_left 1
      · (intro w' hSw; (try dsimp only at hSw); go_simp <;> with_reducible rfl)
      simp only [Act.put, List.getElem_toArray, List.getElem_cons_succ, List.getElem_cons_zero, List.setIfInBounds_toArray, List.set_cons_zero, List.set_cons_succ]
      refine wpAnyH_take (i := 11) (v := ?_) rfl (by kernel_rfl) (by kernel_rfl) (by kernel_rfl) (fun _ _ _ h => h) (Or.inl ⟨by rfl, ?_⟩) (by assumption) ?_
      rotate_left 1
      · (intro w' hSw; (try dsimp only at hSw); go_simp <;> with_reducible rfl)
      simp only [Act.put, List.getElem_toArray, List.getElem_cons_succ, List.getElem_cons_zero, List.setIfInBounds_toArray, List.set_cons_zero, List.set_cons_succ]
      refine wpAnyH_take (i := 12) (v := ?_) rfl (by kernel_rfl) (by kernel_rfl) (by kernel_rfl) (fun _ _ _ h => h) (Or.inl ⟨by rfl, ?_⟩) (by assumption) ?_
      rotate_left 1
      · (intro w' hSw; (try dsimp only at hSw); go_simp <;> with_reducible rfl)
      simp only [Act.put, List.getElem_toArray, List.getElem_cons_succ, List.getElem_cons_zero, List.setIfInBounds_toArray, List.set_cons_zero, List.set_cons_succ]
      refine wpAnyH_take (i := 13) (v := undef) rfl (by kernel_rfl) (by kernel_rfl) (by kernel_rfl) (fun _ _ _ h => h) (Or.inr ⟨by kernel_rfl, rfl⟩) (by assumption) ?_
      simp only [Act.put, List.getElem_toArray, List.getElem_cons_succ, List.getElem_cons_zero, List.setIfInBounds_toArray, List.set_cons_zero, List.set_cons_succ]
      refine wpAnyH_take (i := 14) (v := undef) rfl (by kernel_rfl) (by kernel_rfl) (by kernel_rfl) (fun _ _ _ h => h) (Or.inr ⟨by kernel_rfl, rfl⟩) (by assumption) ?_
      simp only [Act.put, List.getElem_toArray, List.getElem_cons_succ, List.getElem_cons_zero, List.setIfInBounds_toArray, List.set_cons_zero, List.set_cons_succ]
      refine wpAnyH_take (i := 15) (v := undef) rfl (by kernel_rfl) (by kernel_rfl) (by kernel_rfl) (fun _ _ _ h => h) (Or.inr ⟨by kernel_rfl, rfl⟩) (by assumption) ?_
      simp only [Act.put, List.getElem_toArray, List.getElem_cons_succ, List.getElem_cons_zero, List.setIfInBounds_toArray, List.set_cons_zero, List.set_cons_succ]
      refine wpAnyH_take (i := 16) (v := undef) rfl (by kernel_rfl) (by kernel_rfl) (by kernel_rfl) (fun _ _ _ h => h) (Or.inr ⟨by kernel_rfl, rfl⟩) (by assumption) ?_
      simp only [Act.put, List.getElem_toArray, List.getElem_cons_succ, List.getElem_cons_zero, List.setIfInBounds_toArray, List.set_cons_zero, List.set_cons_succ]
      refine wpAnyH_take (i := 17) (v := undef) rfl (by kernel_rfl) (by kernel_rfl) (by kernel_rfl) (fun _ _ _ h => h) (Or.inr ⟨by kernel_rfl, rfl⟩) (by assumption) ?_
      simp only [Act.put, List.getElem_toArray, List.getElem_cons_succ, List.getElem_cons_zero, List.setIfInBounds_toArray, List.set_cons_zero, List.set_cons_succ]
      refine wpAnyH_ready (rs := [18]) (by kernel_rfl) (by simp) ?_
      refine (AllReadyH.cons rfl (fun K hK => ?_) AllReadyH.nil)
      rw [if_neg (show ¬ (_ = true) from fun h => Bool.noConfusion ((show _ = false by kernel_rfl).symm.trans h))]
      refine hK.out _ _ ?_ (fun hHeld => ?_)
      · (first | (with_reducible exact hkeep) | go_keep)
      clear hK K
      try simp only [Act.put, List.getElem_toArray, List.getElem_cons_succ, List.getElem_cons_zero, List.setIfInBounds_toArray, List.set_cons_zero, List.set_cons_succ]
      refine wpAnyH_take (i := 19) (v := undef) rfl (by kernel_rfl) (by kernel_rfl) (by kernel_rfl) (fun _ _ _ h => h) (Or.inr ⟨by kernel_rfl, rfl⟩) (by assumption) ?_
      simp only [Act.put, List.getElem_toArray, List.getElem_cons_succ, List.getElem_cons_zero, List.setIfInBounds_toArray, List.set_cons_zero, List.set_cons_succ]
      refine wpAnyH_take (i := 20) (v := ?_) rfl (by kernel_rfl) (by kernel_rfl) (by kernel_rfl) (fun _ _ _ h => h) (Or.inl ⟨by rfl, ?_⟩) (by assumption) ?_
      rotate_left 1
      · (intro w' hSw; (try dsimp only at hSw); go_simp <;> with_reducible rfl)
      simp only [Act.put, List.getElem_toArray, List.getElem_cons_succ, List.getElem_cons_zero, List.setIfInBounds_toArray, List.set_cons_zero, List.set_cons_succ]
      refine wpAnyH_take (i := 21) (v := ?_) rfl (by kernel_rfl) (by kernel_rfl) (by kernel_rfl) (fun _ _ _ h => h) (Or.inl ⟨by rfl, ?_⟩) (by assumption) ?_
      rotate_left 1
      · (intro w' hSw; (try dsimp only at hSw); go_simp <;> with_reducible rfl)
      simp only [Act.put, List.getElem_toArray, List.getElem_cons_succ, List.getElem_cons_zero, List.setIfInBounds_toArray, List.set_cons_zero, List.set_cons_succ]
      refine wpAnyH_take (i := 22) (v := undef) rfl (by kernel_rfl) (by kernel_rfl) (by kernel_rfl) (fun _ _ _ h => h) (Or.inr ⟨by kernel_rfl, rfl⟩) (by assumption) ?_
      simp only [Act.put, List.getElem_toArray, List.getElem_cons_succ, List.getElem_cons_zero, List.setIfInBounds_toArray, List.set_cons_zero, List.set_cons_succ]
      refine wpAnyH_take (i := 23) (v := undef) rfl (by kernel_rfl) (by kernel_rfl) (by kernel_rfl) (fun _ _ _ h => h) (Or.inr ⟨by kernel_rfl, rfl⟩) (by assumption) ?_
      simp only [Act.put, List.getElem_toArray, List.getElem_cons_succ, List.getElem_cons_zero, List.setIfInBounds_toArray, List.set_cons_zero, List.set_cons_succ]
      refine wpAnyH_take (i := 24) (v := undef) rfl (by kernel_rfl) (by kernel_rfl) (by kernel_rfl) (fun _ _ _ h => h) (Or.inr ⟨by kernel_rfl, rfl⟩) (by assumption) ?_
      simp only [Act.put, List.getElem_toArray, List.getElem_cons_succ, List.getElem_cons_zero, List.setIfInBounds_toArray, List.set_cons_zero, List.set_cons_succ]
      refine wpAnyH_take (i := 25) (v := undef) rfl (by kernel_rfl) (by kernel_rfl) (by kernel_rfl) (fun _ _ _ h => h) (Or.inr ⟨by kernel_rfl, rfl⟩) (by assumption) ?_
      simp only [Act.put, List.getElem_toArray, List.getElem_cons_succ, List.getElem_cons_zero, List.setIfInBounds_toArray, List.set_cons_zero, List.set_cons_succ]
      refine wpAnyH_ready (rs := [26]) (by kernel_rfl) (by simp) ?_
      refine (AllReadyH.cons rfl (fun K hK => ?_) AllReadyH.nil)
      rw [if_neg (show ¬ (_ = true) from fun h => Bool.noConfusion ((show _ = false by kernel_rfl).symm.trans h))]
      refine hK.out _ _ ?_ (fun hHeld => ?_)
      · (first | (with_reducible exact hkeep) | go_keep)
      clear hK K
      try simp only [Act.put, List.getElem_toArray, List.getElem_cons_succ, List.getElem_cons_zero, List.setIfInBounds_toArray, List.set_cons_zero, List.set_cons_succ]
      refine wpAnyH_ready (rs := [27]) (by kernel_rfl) (by simp) ?_
      refine (AllReadyH.cons rfl (fun K hK => ?_) AllReadyH.nil)
      rw [if_neg (show ¬ (_ = true) from fun h => Bool.noConfusion ((show _ = false by kernel_rfl).symm.trans h))]
      refine hK.out _ _ ?_ (fun hHeld => ?_)
      · (first | (with_reducible exact hkeep) | go_keep)
      clear hK K
      try simp only [Act.put, List.getElem_toArray, List.getElem_cons_succ, List.getElem_cons_zero, List.setIfInBounds_toArray, List.set_cons_zero, List.set_cons_succ]
      refine wpAnyH_take (i := 28) (v := undef) rfl (by kernel_rfl) (by kernel_rfl) (by kernel_rfl) (fun _ _ _ h => h) (Or.inr ⟨by kernel_rfl, rfl⟩) (by assumption) ?_
      simp only [Act.put, List.getElem_toArray, List.getElem_cons_succ, List.getElem_cons_zero, List.setIfInBounds_toArray, List.set_cons_zero, List.set_cons_succ]
      refine wpAnyH_take (i := 29) (v := ?_) rfl (by kernel_rfl) (by kernel_rfl) (by kernel_rfl) (fun _ _ _ h => h) (Or.inl ⟨by rfl, ?_⟩) (by assumption) ?_
      rotate_left 1
      · (intro w' hSw; (try dsimp only at hSw); go_simp <;> with_reducible rfl)
      simp only [Act.put, List.getElem_toArray, List.getElem_cons_succ, List.getElem_cons_zero, List.setIfInBounds_toArray, List.set_cons_zero, List.set_cons_succ]
      refine wpAnyH_done (by kernel_rfl) ?_ _
      refine NoPanic.normal ?_
      have Q9 := Lib.hid q2
      clear hkeep q0 q1 q2
      go_wp2_with fail
      go_ret
      exact ⟨rfl, Q9.out.bel⟩
    · rw [hi] at hI1
      cases hj : gridIn side bx b_y
      · rw [hj] at hI2
        have HE : Hid (boundOut side l T Ld ax ay bx b_y D = -1) := by show _ = _; unfold boundOut; rw [hr, hi, hj]; rfl
        rw [HE.out]
        clear HE hr hi hj hBk hML hDL hd hTl hLl hs
        go_enter Try.func25, Try.ntmps25
        go_upto_region 1 with fail
        have q0 := HB.out.below (bel_D _)
        have hkeep := HS.out _ q0
        refine wp_region_noPanic ?_
        refine wp_region_held_drew (S := (fun w' => w'.cell? ⟨w.heap.size, 0, none⟩ = some (.int .i64 side) ∧ w'.cell? ⟨w.heap.size, 1, none⟩ = some (.slice A l.length c) ∧ w'.cell? ⟨w.heap.size + 1, 0, none⟩ = some (.slice (some ⟨bm, offm, none⟩) T.length cm) ∧ w'.cell? ⟨w.heap.size + 1, 1, none⟩ = some (.slice AL Ld.length cL) ∧ w'.cell? ⟨w.heap.size + 1 + 1, 0, none⟩ = some (.int .i64 ax) ∧ w'.cell? ⟨w.heap.size + 1 + 1, 1, none⟩ = some (.int .i64 ay) ∧ w'.cell? ⟨w.heap.size + 1 + 1 + 1, 0, none⟩ = some (.int .i64 bx) ∧ w'.cell? ⟨w.heap.size + 1 + 1 + 1, 1, none⟩ = some (.int .i64 b_y))) (by kernel_rfl) hkeep (fun hHeld => ?_)
        refine wpAnyH_take (i := 0) (v := ?_) rfl (by kernel_rfl) (by kernel_rfl) (by kernel_rfl) (fun _ _ _ h => h) (Or.inl ⟨by rfl, ?_⟩) (by assumption) ?_
        rotate_left 1
        · (intro w' hSw; (try dsimp only at hSw); go_simp <;> with_reducible rfl)
        simp only [Act.put, List.getElem_toArray, List.getElem_cons_succ, List.getElem_cons_zero, List.setIfInBounds_toArray, List.set_cons_zero, List.set_cons_succ]
        refine wpAnyH_ready (rs := [1]) (by kernel_rfl) (by simp) ?_
        refine (AllReadyH.cons rfl (fun K hK => ?_) AllReadyH.nil)
        go_simp
        (go_at_call 45; refine (hR _ ((H.out.below q0.bel).mono q0.bel.size)).mono ?_; rintro e v1 ⟨rfl, hb⟩; clear hkeep; have q1 := q0.below hb; have hkeep := HS.out _ q1; clear hb)
        try go_wp2_with fail
        refine hK.out _ _ ?_ (fun hHeld => ?_)
        · (first | (with_reducible exact hkeep) | go_keep)
        clear hK K
        try simp only [Act.put, List.getElem_toArray, List.getElem_cons_succ, List.getElem_cons_zero, List.setIfInBounds_toArray, List.set_cons_zero, List.set_cons_succ]
        refine wpAnyH_take (i := 2) (v := ?_) rfl (by kernel_rfl) (by kernel_rfl) (by kernel_rfl) (fun _ _ _ h => h) (Or.inl ⟨by rfl, ?_⟩) (by assumption) ?_
        rotate_left 1
        · (intro w' hSw; (try dsimp only at hSw); go_simp <;> with_reducible rfl)
        simp only [Act.put, List.getElem_toArray, List.getElem_cons_succ, List.getElem_cons_zero, List.setIfInBounds_toArray, List.set_cons_zero, List.set_cons_succ]
        refine wpAnyH_take (i := 3) (v := ?_) rfl (by kernel_rfl) (by kernel_rfl) (by kernel_rfl) (fun _ _ _ h => h) (Or.inl ⟨by rfl, ?_⟩) (by assumption) ?_
        rotate_left 1
        · (intro w' hSw; (try dsimp only at hSw); go_simp <;> with_reducible rfl)
        simp only [Act.put, List.getElem_toArray, List.getElem_cons_succ, List.getElem_cons_zero, List.setIfInBounds_toArray, List.set_cons_zero, List.set_cons_succ]
        refine wpAnyH_take (i := 4) (v := ?_) rfl (by kernel_rfl) (by kernel_rfl) (by kernel_rfl) (fun _ _ _ h => h) (Or.inl ⟨by rfl, ?_⟩) (by assumption) ?_
        rotate_left 1
        · (intro w' hSw; (try dsimp only at hSw); go_simp <;> with_reducible rfl)
        simp only [Act.put, List.getElem_toArray, List.getElem_cons_succ, List.getElem_cons_zero, List.setIfInBounds_toArray, List.set_cons_zero, List.set_cons_succ]
        refine wpAnyH_take (i := 5) (v := ?_) rfl (by kernel_rfl) (by kernel_rfl) (by kernel_rfl) (fun _ _ _ h => h) (Or.inl ⟨by rfl, ?_⟩) (by assumption) ?_
        rotate_left 1
        · (intro w' hSw; (try dsimp only at hSw); go_simp <;> with_reducible rfl)
        simp only [Act.put, List.getElem_toArray, List.getElem_cons_succ, List.getElem_cons_zero, List.setIfInBounds_toArray, List.set_cons_zero, List.set_cons_succ]
        refine wpAnyH_take (i := 6) (v := ?_) rfl (by kernel_rfl) (by kernel_rfl) (by kernel_rfl) (fun _ _ _ h => h) (Or.inl ⟨by rfl, ?_⟩) (by assumption) ?_
        rotate_left 1
        · (intro w' hSw; (try dsimp only at hSw); go_simp <;> with_reducible rfl)
        simp only [Act.put, List.getElem_toArray, List.getElem_cons_succ, List.getElem_cons_zero, List.setIfInBounds_toArray, List.set_cons_zero, List.set_cons_succ]
        refine wpAnyH_take (i := 7) (v := ?_) rfl (by kernel_rfl) (by kernel_rfl) (by kernel_rfl) (fun _ _ _ h => h) (Or.inl ⟨by rfl, ?_⟩) (by assumption) ?_
        rotate_left 1
        · (intro w' hSw; (try dsimp only at hSw); go_simp <;> with_reducible rfl)
        simp only [Act.put, List.getElem_toArray, List.getElem_cons_succ, List.getElem_cons_zero, List.setIfInBounds_toArray, List.set_cons_zero, List.set_cons_succ]
        refine wpAnyH_take (i := 8) (v := ?_) rfl (by kernel_rfl) (by kernel_rfl) (by kernel_rfl) (fun _ _ _ h => h) (Or.inl ⟨by rfl, ?_⟩) (by assumption) ?_
        rotate_left 1
        · (intro w' hSw; (try dsimp only at hSw); go_simp <;> with_reducible rfl)
        simp only [Act.put, List.getElem_toArray, List.getElem_cons_succ, List.getElem_cons_zero, List.setIfInBounds_toArray, List.set_cons_zero, List.set_cons_succ]
        refine wpAnyH_ready (rs := [9]) (by kernel_rfl) (by simp) ?_
        refine (AllReadyH.cons rfl (fun K hK => ?_) AllReadyH.nil)
        go_simp
        (go_at_call 46; refine (hI1 _).mono ?_; rintro e v2 ⟨rfl, hb⟩; clear hkeep; have q2 := q1.below hb; have hkeep := HS.out _ q2; clear hb)
        try go_wp2_with fail
        refine hK.out _ _ ?_ (fun hHeld => ?_)
        · (first | (with_reducible exact hkeep) | go_keep)
        clear hK K
        try simp only [Act.put, List.getElem_toArray, List.getElem_cons_succ, List.getElem_cons_zero, List.setIfInBounds_toArray, List.set_cons_zero, List.set_cons_succ]
        refine wpAnyH_take (i := 10) (v := ?_) rfl (by kernel_rfl) (by kernel_rfl) (by kernel_rfl) (fun _ _ _ h => h) (Or.inl ⟨by rfl, ?_⟩) (by assumption) ?_
        rotate_left 1
        · (intro w' hSw; (try dsimp only at hSw); go_simp <;> with_reducible rfl)
        simp only [Act.put, List.getElem_toArray, List.getElem_cons_succ, List.getElem_cons_zero, List.setIfInBounds_toArray, List.set_cons_zero, List.set_cons_succ]
        refine wpAnyH_take (i := 11) (v := ?_) rfl (by kernel_rfl) (by kernel_rfl) (by kernel_rfl) (fun _ _ _ h => h) (Or.inl ⟨by rfl, ?_⟩) (by assumption) ?_
        rotate_left 1
        · (intro w' hSw; (try dsimp only at hSw); go_simp <;> with_reducible rfl)
        simp only [Act.put, List.getElem_toArray, List.getElem_cons_succ, List.getElem_cons_zero, List.setIfInBounds_toArray, List.set_cons_zero, List.set_cons_succ]
        refine wpAnyH_take (i := 12) (v := ?_) rfl (by kernel_rfl) (by kernel_rfl) (by kernel_rfl) (fun _ _ _ h => h) (Or.inl ⟨by rfl, ?_⟩) (by assumption) ?_
        rotate_left 1
        · (intro w' hSw; (try dsimp only at hSw); go_simp <;> with_reducible rfl)
        simp only [Act.put, List.getElem_toArray, List.getElem_cons_succ, List.getElem_cons_zero, List.setIfInBounds_toArray, List.set_cons_zero, List.set_cons_succ]
        refine wpAnyH_take (i := 13) (v := ?_) rfl (by kernel_rfl) (by kernel_rfl) (by kernel_rfl) (fun _ _ _ h => h) (Or.inl ⟨by rfl, ?_⟩) (by assumption) ?_
        rotate_left 1
        · (intro w' hSw; (try dsimp only at hSw); go_simp <;> with_reducible rfl)
        simp only [Act.put, List.getElem_toArray, List.getElem_cons_succ, List.getElem_cons_zero, List.setIfInBounds_toArray, List.set_cons_zero, List.set_cons_succ]
        refine wpAnyH_take (i := 14) (v := ?_) rfl (by kernel_rfl) (by kernel_rfl) (by kernel_rfl) (fun _ _ _ h => h) (Or.inl ⟨by rfl, ?_⟩) (by assumption) ?_
        rotate_left 1
        · (intro w' hSw; (try dsimp only at hSw); go_simp <;> with_reducible rfl)
        simp only [Act.put, List.getElem_toArray, List.getElem_cons_succ, List.getElem_cons_zero, List.setIfInBounds_toArray, List.set_cons_zero, List.set_cons_succ]
        refine wpAnyH_take (i := 15) (v := ?_) rfl (by kernel_rfl) (by kernel_rfl) (by kernel_rfl) (fun _ _ _ h => h) (Or.inl ⟨by rfl, ?_⟩) (by assumption) ?_
        rotate_left 1
        · (intro w' hSw; (try dsimp only at hSw); go_simp <;> with_reducible rfl)
        simp only [Act.put, List.getElem_toArray, List.getElem_cons_succ, List.getElem_cons_zero, List.setIfInBounds_toArray, List.set_cons_zero, List.set_cons_succ]
        refine wpAnyH_take (i := 16) (v := ?_) rfl (by kernel_rfl) (by kernel_rfl) (by kernel_rfl) (fun _ _ _ h => h) (Or.inl ⟨by rfl, ?_⟩) (by assumption) ?_
        rotate_left 1
        · (intro w' hSw; (try dsimp only at hSw); go_simp <;> with_reducible rfl)
        simp only [Act.put, List.getElem_toArray, List.getElem_cons_succ, List.getElem_cons_zero, List.setIfInBounds_toArray, List.set_cons_zero, List.set_cons_succ]
        refine wpAnyH_take (i := 17) (v := ?_) rfl (by kernel_rfl) (by kernel_rfl) (by kernel_rfl) (fun _ _ _ h => h) (Or.inl ⟨by rfl, ?_⟩) (by assumption) ?_
        rotate_left 1
        · (intro w' hSw; (try dsimp only at hSw); go_simp <;> with_reducible rfl)
        simp only [Act.put, List.getElem_toArray, List.getElem_cons_succ, List.getElem_cons_zero, List.setIfInBounds_toArray, List.set_cons_zero, List.set_cons_succ]
        refine wpAnyH_ready (rs := [18]) (by kernel_rfl) (by simp) ?_
        refine (AllReadyH.cons rfl (fun K hK => ?_) AllReadyH.nil)
        go_simp
        (go_at_call 46; refine (hI2 _).mono ?_; rintro e v3 ⟨rfl, hb⟩; clear hkeep; have q3 := q2.below hb; have hkeep := HS.out _ q3; clear hb)
        try go_wp2_with fail
        refine hK.out _ _ ?_ (fun hHeld => ?_)
        · (first | (with_reducible exact hkeep) | go_keep)
        clear hK K
        try simp only [Act.put, List.getElem_toArray, List.getElem_cons_succ, List.getElem_cons_zero, List.setIfInBounds_toArray, List.set_cons_zero, List.set_cons_succ]
        refine wpAnyH_take (i := 19) (v := ?_) rfl (by kernel_rfl) (by kernel_rfl) (by kernel_rfl) (fun _ _ _ h => h) (Or.inl ⟨by rfl, ?_⟩) (by assumption) ?_
        rotate_left 1
        · (intro w' hSw; (try dsimp only at hSw); go_simp <;> with_reducible rfl)
        simp only [Act.put, List.getElem_toArray, List.getElem_cons_succ, List.getElem_cons_zero, List.setIfInBounds_toArray, List.set_cons_zero, List.set_cons_succ]
        refine wpAnyH_take (i := 20) (v := ?_) rfl (by kernel_rfl) (by kernel_rfl) (by kernel_rfl) (fun _ _ _ h => h) (Or.inl ⟨by rfl, ?_⟩) (by assumption) ?_
        rotate_left 1
        · (intro w' hSw; (try dsimp only at hSw); go_simp <;> with_reducible rfl)
        simp only [Act.put, List.getElem_toArray, List.getElem_cons_succ, List.getElem_cons_zero, List.setIfInBounds_toArray, List.set_cons_zero, List.set_cons_succ]
        refine wpAnyH_take (i := 21) (v := ?_) rfl (by kernel_rfl) (by kernel_rfl) (by kernel_rfl) (fun _ _ _ h => h) (Or.inl ⟨by rfl, ?_⟩) (by assumption) ?_
        rotate_left 1
        · (intro w' hSw; (try dsimp only at hSw); go_simp <;> with_reducible rfl)
        simp only [Act.put, List.getElem_toArray, List.getElem_cons_succ, List.getElem_cons_zero, List.setIfInBounds_toArray, List.set_cons_zero, List.set_cons_succ]
        refine wpAnyH_take (i := 22) (v := undef) rfl (by kernel_rfl) (by kernel_rfl) (by kernel_rfl) (fun _ _ _ h => h) (Or.inr ⟨by kernel_rfl, rfl⟩) (by assumption) ?_
        simp only [Act.put, List.getElem_toArray, List.getElem_cons_succ, List.getElem_cons_zero, List.setIfInBounds_toArray, List.set_cons_zero, List.set_cons_succ]
        refine wpAnyH_take (i := 23) (v := undef) rfl (by kernel_rfl) (by kernel_rfl) (by kernel_rfl) (fun _ _ _ h => h) (Or.inr ⟨by kernel_rfl, rfl⟩) (by assumption) ?_
        simp only [Act.put, List.getElem_toArray, List.getElem_cons_succ, List.getElem_cons_zero, List.setIfInBounds_toArray, List.set_cons_zero, List.set_cons_succ]
        refine wpAnyH_take (i := 24) (v := undef) rfl (by kernel_rfl) (by kernel_rfl) (by kernel_rfl) (fun _ _ _ h => h) (Or.inr ⟨by kernel_rfl, rfl⟩) (by assumption) ?_
        simp only [Act.put, List.getElem_toArray, List.getElem_cons_succ, List.getElem_cons_zero, List.setIfInBounds_toArray, List.set_cons_zero, List.set_cons_succ]
        refine wpAnyH_take (i := 25) (v := undef) rfl (by kernel_rfl) (by kernel_rfl) (by kernel_rfl) (fun _ _ _ h => h) (Or.inr ⟨by kernel_rfl, rfl⟩) (by assumption) ?_
        simp only [Act.put, List.getElem_toArray, List.getElem_cons_succ, List.getElem_cons_zero, List.setIfInBounds_toArray, List.set_cons_zero, List.set_cons_succ]
        refine wpAnyH_ready (rs := [26]) (by kernel_rfl) (by simp) ?_
        refine (AllReadyH.cons rfl (fun K hK => ?_) AllReadyH.nil)
        rw [if_neg (show ¬ (_ = true) from fun h => Bool.noConfusion ((show _ = false by kernel_rfl).symm.trans h))]
        refine hK.out _ _ ?_ (fun hHeld => ?_)
        · (first | (with_reducible exact hkeep) | go_keep)
        clear hK K
        try simp only [Act.put, List.getElem_toArray, List.getElem_cons_succ, List.getElem_cons_zero, List.setIfInBounds_toArray, List.set_cons_zero, List.set_cons_succ]
        refine wpAnyH_ready (rs := [27]) (by kernel_rfl) (by simp) ?_
        refine (AllReadyH.cons rfl (fun K hK => ?_) AllReadyH.nil)
        rw [if_neg (show ¬ (_ = true) from fun h => Bool.noConfusion ((show _ = false by kernel_rfl).symm.trans h))]
        refine hK.out _ _ ?_ (fun hHeld => ?_)
        · (first | (with_reducible exact hkeep) | go_keep)
        clear hK K
        try simp only [Act.put, List.getElem_toArray, List.getElem_cons_succ, List.getElem_cons_zero, List.setIfInBounds_toArray, List.set_cons_zero, List.set_cons_succ]
        refine wpAnyH_take (i := 28) (v := undef) rfl (by kernel_rfl) (by kernel_rfl) (by kernel_rfl) (fun _ _ _ h => h) (Or.inr ⟨by kernel_rfl, rfl⟩) (by assumption) ?_
        simp only [Act.put, List.getElem_toArray, List.getElem_cons_succ, List.getElem_cons_zero, List.setIfInBounds_toArray, List.set_cons_zero, List.set_cons_succ]
        refine wpAnyH_take (i := 29) (v := ?_) rfl (by kernel_rfl) (by kernel_rfl) (by kernel_rfl) (fun _ _ _ h => h) (Or.inl ⟨by rfl, ?_⟩) (by assumption) ?_
        rotate_left 1
        · (intro w' hSw; (try dsimp only at hSw); go_simp <;> with_reducible rfl)
        simp only [Act.put, List.getElem_toArray, List.getElem_cons_succ, List.getElem_cons_zero, List.setIfInBounds_toArray, List.set_cons_zero, List.set_cons_succ]
        refine wpAnyH_done (by kernel_rfl) ?_ _
        refine NoPanic.normal ?_
        have Q9 := Lib.hid q3
        clear hkeep q0 q1 q2 q3
        go_wp2_with fail
        go_ret
        exact ⟨rfl, Q9.out.bel⟩
      · rw [hj] at hI2
        have hSm := fun A4 c4 D4 d4 w h h2 k k2 => mSame_any (some ⟨bm, offm, none⟩) A4 AL D4 cm c4 cL d4 T (bakeM side l T) Ld (bakeD side l T D) w h h2 k k2 (by omega) (by omega) (by omega) (by omega)
        cases hsm : (decide (T = bakeM side l T) && decide (Ld = bakeD side l T D))
        · rw [hsm] at hSm
          have HE : Hid (boundOut side l T Ld ax ay bx b_y D = -1) := by show _ = _; unfold boundOut; rw [hr, hi, hj, hsm]; rfl
          rw [HE.out]
          clear HE hr hi hj hsm hML hDL hd hTl hLl hs
          go_enter Try.func25, Try.ntmps25
          go_upto_region 1 with fail
          have q0 := HB.out.below (bel_D _)
          have hkeep := HS.out _ q0
          go_region_held3 (fun w' => w'.cell? ⟨w.heap.size, 0, none⟩ = some (.int .i64 side) ∧ w'.cell? ⟨w.heap.size, 1, none⟩ = some (.slice A l.length c) ∧ w'.cell? ⟨w.heap.size + 1, 0, none⟩ = some (.slice (some ⟨bm, offm, none⟩) T.length cm) ∧ w'.cell? ⟨w.heap.size + 1, 1, none⟩ = some (.slice AL Ld.length cL) ∧ w'.cell? ⟨w.heap.size + 1 + 1, 0, none⟩ = some (.int .i64 ax) ∧ w'.cell? ⟨w.heap.size + 1 + 1, 1, none⟩ = some (.int .i64 ay) ∧ w'.cell? ⟨w.heap.size + 1 + 1 + 1, 0, none⟩ = some (.int .i64 bx) ∧ w'.cell? ⟨w.heap.size + 1 + 1 + 1, 1, none⟩ = some (.int .i64 b_y))
            (first | (with_reducible exact hkeep) | go_keep)
            (first
              | (go_at_call 67; have _c := q4; clear _c; refine (hSm _ _ _ _ _ ((HT.out.below q4.bel).mono q4.bel.size) HO4.out ((HL.out.below q4.bel).mono q4.bel.size) HO5.out).mono ?_; rintro e v5 ⟨rfl, hb⟩; clear hkeep; have q5 := q4.below hb; have hkeep := HS.out _ q5; clear hb)
              | (go_at_call 22; have _c := q3; clear _c; refine (hBk _ ((H.out.below q3.bel).mono q3.bel.size) ((HT.out.below q3.bel).mono q3.bel.size)).mono ?_; rintro e v4 ⟨A4, c4, D4, d4, rfl, o4, o5, _, hb⟩; clear hkeep; have q4 := q3.below hb; have HO4 := Lib.hid o4.r; have HO5 := Lib.hid o5.ri; clear o4 o5; have hkeep := HS.out _ q4; clear hb)
              | (go_at_call 46; have _c := q2; clear _c; refine (hI2 _).mono ?_; rintro e v3 ⟨rfl, hb⟩; clear hkeep; have q3 := q2.below hb; have hkeep := HS.out _ q3; clear hb)
              | (go_at_call 46; have _c := q1; clear _c; refine (hI1 _).mono ?_; rintro e v2 ⟨rfl, hb⟩; clear hkeep; have q2 := q1.below hb; have hkeep := HS.out _ q2; clear hb)
              | (go_at_call 45; refine (hR _ ((H.out.below q0.bel).mono q0.bel.size)).mono ?_; rintro e v1 ⟨rfl, hb⟩; clear hkeep; have q1 := q0.below hb; have hkeep := HS.out _ q1; clear hb))
          all_goals
            have Q9 := Lib.hid q5
            clear hkeep q0 q1 q2 q3 q4 q5
            go_wp2_with fail
            go_ret
            exact ⟨rfl, Q9.out.bel⟩
        · rw [hsm] at hSm
          have hsm' := hsm
          simp only [Bool.and_eq_true, decide_eq_true_eq] at hsm'
          have HE : Hid (boundOut side l T Ld ax ay bx b_y D = (bndTo D (pn side ax ay) (pn side bx b_y) T.length).getD (-1)) := by show _ = _; unfold boundOut; rw [hr, hi, hj, hsm]; rfl
          rw [HE.out]
          have hok := boundOut_ok (D := D) hsm'.1 hr
          have hok' := hok
          unfold bakeOk at hok'
          simp only [Bool.and_eq_true, decide_eq_true_eq, List.all_eq_true] at hok'
          have hT4 := hok'.1.2
          have HOP : Hid (∀ i (hi : i < T.length), opn side l T[i].x T[i].y = true) := fun i hi => hok'.2 _ (List.getElem_mem hi)
          have HGD : Hid (∀ i (hi : i < T.length), GDist side l T[i].x T[i].y (D i)) := fun i hi => hd i hi (by rw [hr, HOP.out i hi]; rfl)
          have HLE : Hid (Ld = flatD D T.length) := by
            show Ld = flatD D T.length
            rw [hsm'.2]
            unfold bakeD
            rw [hok]
            rfl
          have hlen := flatD_get (D := D) (m := l.length) (n := T.length) fun j hj => (HGD.out j hj).len
          have hl64 := right_len hr
          have hpa := (pn_lt hr hi).1
          have hpb := (pn_lt hr hj).1
          have hA1 := fun A n c w => mAt5_any hr hi A n c w
          have hA2 := fun A n c w => mAt5_any hr hj A n c w
          have HSM : Hid (∀ j, j < T.length → (-1 ≤ dk (D j) (pn side ax ay) ∧ dk (D j) (pn side ax ay) ≤ 1300) ∧ (-1 ≤ dk (D j) (pn side bx b_y) ∧ dk (D j) (pn side bx b_y) ≤ 1300)) := fun j hj => ⟨dk_small hr (HGD.out j hj) hpa, dk_small hr (HGD.out j hj) hpb⟩
          have HLL : Hid (Ld.length = T.length * l.length) := by show _ = _; rw [HLE.out]; exact hlen.1
          have HAT : Hid (∀ k p, k < T.length → p < l.length → ∃ hh : k * l.length + p < Ld.length, Ld[k * l.length + p] = dk (D k) p) := by
            intro k p hk hp
            have hm : k * l.length + l.length ≤ T.length * l.length := by have := Nat.mul_le_mul_right l.length (show k + 1 ≤ T.length from hk); rw [Nat.succ_mul] at this; exact this
            have hh : k * l.length + p < Ld.length := by rw [HLL.out]; omega
            refine ⟨hh, ?_⟩
            have h1 := hlen.2 k p hk hp
            rw [← HLE.out, List.getElem?_eq_getElem hh, List.getElem?_eq_getElem (by rw [(HGD.out k hk).len]; exact hp)] at h1
            rw [dk_lt (by rw [(HGD.out k hk).len]; exact hp)]
            exact Option.some.inj h1
          clear hr hi hj hsm hsm' hok hok' hd hTl hLl hs hML hDL HE hlen HGD HOP HLE
          generalize pn side ax ay = pa at *
          generalize pn side bx b_y = pb at *
          go_enter Try.func25, Try.ntmps25
          go_upto_region 1 with fail
          go_cut [42] from 13 to 103 (fun c42 wx => c42 = .bool false ∧ B5 w side A c l (.slice (some ⟨bm, offm, none⟩) T.length cm) (.slice AL Ld.length cL) ax ay bx b_y wx)
          case first =>
            have q0 := HB.out.below (bel_D _)
            have hkeep := HS.out _ q0
            go_region_held3 (fun w' => w'.cell? ⟨w.heap.size, 0, none⟩ = some (.int .i64 side) ∧ w'.cell? ⟨w.heap.size, 1, none⟩ = some (.slice A l.length c) ∧ w'.cell? ⟨w.heap.size + 1, 0, none⟩ = some (.slice (some ⟨bm, offm, none⟩) T.length cm) ∧ w'.cell? ⟨w.heap.size + 1, 1, none⟩ = some (.slice AL Ld.length cL) ∧ w'.cell? ⟨w.heap.size + 1 + 1, 0, none⟩ = some (.int .i64 ax) ∧ w'.cell? ⟨w.heap.size + 1 + 1, 1, none⟩ = some (.int .i64 ay) ∧ w'.cell? ⟨w.heap.size + 1 + 1 + 1, 0, none⟩ = some (.int .i64 bx) ∧ w'.cell? ⟨w.heap.size + 1 + 1 + 1, 1, none⟩ = some (.int .i64 b_y))
              (first | (with_reducible exact hkeep) | go_keep)
              (first
                | (go_at_call 67; have _c := q4; clear _c; refine (hSm _ _ _ _ _ ((HT.out.below q4.bel).mono q4.bel.size) HO4.out ((HL.out.below q4.bel).mono q4.bel.size) HO5.out).mono ?_; rintro e v5 ⟨rfl, hb⟩; clear hkeep; have q5 := q4.below hb; have hkeep := HS.out _ q5; clear hb)
                | (go_at_call 22; have _c := q3; clear _c; refine (hBk _ ((H.out.below q3.bel).mono q3.bel.size) ((HT.out.below q3.bel).mono q3.bel.size)).mono ?_; rintro e v4 ⟨A4, c4, D4, d4, rfl, o4, o5, _, hb⟩; clear hkeep; have q4 := q3.below hb; have HO4 := Lib.hid o4.r; have HO5 := Lib.hid o5.ri; clear o4 o5; have hkeep := HS.out _ q4; clear hb)
                | (go_at_call 46; have _c := q2; clear _c; refine (hI2 _).mono ?_; rintro e v3 ⟨rfl, hb⟩; clear hkeep; have q3 := q2.below hb; have hkeep := HS.out _ q3; clear hb)
                | (go_at_call 46; have _c := q1; clear _c; refine (hI1 _).mono ?_; rintro e v2 ⟨rfl, hb⟩; clear hkeep; have q2 := q1.below hb; have hkeep := HS.out _ q2; clear hb)
                | (go_at_call 45; refine (hR _ ((H.out.below q0.bel).mono q0.bel.size)).mono ?_; rintro e v1 ⟨rfl, hb⟩; clear hkeep; have q1 := q0.below hb; have hkeep := HS.out _ q1; clear hb))
            all_goals
              have Q9 := Lib.hid q5
              clear hkeep q0 q1 q2 q3 q4 q5
              go_wp2_with fail
              go_meet
              exact ⟨rfl, Q9.out⟩
          obtain ⟨rfl, hq⟩ := hcut
          have HQ := Lib.hid hq
          clear hq HB hR hI1 hI2 hBk hSm
          generalize wc = W at *
          go_wp2_with fail
          go_loopw [9, 10] (fun n i wr => ∃ (k : Nat) (N : Int), i = .int .i64 k ∧ n = .int .i64 N ∧ k ≤ T.length ∧ B5 w side A c l (.slice (some ⟨bm, offm, none⟩) T.length cm) (.slice AL Ld.length cL) ax ay bx b_y wr ∧ Hid (bndTo D pa pb k = some N)) (fun _ i _ => T.length - (intOf i).toNat)
          case atStart => exact ⟨0, 0, rfl, rfl, Nat.zero_le _, HQ.out, rfl⟩
          case round =>
            obtain ⟨k, N, rfl, rfl, hk, hq, HN⟩ := hrel
            have HQ1 := Lib.hid hq
            clear hq HQ
            have hNs := bndTo_small HN.out fun j hj => HSM.out j (by omega)
            obtain ⟨g0, g1, t0, t1, a0, a1, b0, b1⟩ := HS.out _ HQ1.out
            by_cases hlt : k < T.length
            · have hsm := HSM.out k hlt
              have HBN : Hid (bndTo D pa pb (k + 1) = bnd1 (dk (D k) pa) (dk (D k) pb) N) := by show _ = _; simp only [bndTo, HN.out, Option.bind_some]
              have HNO : Hid (bndTo D pa pb (k + 1) = none → bndTo D pa pb T.length = none) := fun h => bndTo_none h _ (by omega)
              obtain ⟨hh1, hv1⟩ := HAT.out k pa hlt hpa
              obtain ⟨hh2, hv2⟩ := HAT.out k pb hlt hpb
              obtain ⟨bL, offL, rfl, hbL, hcL⟩ := (show ∃ b off, AL = some ⟨b, off, none⟩ ∧ b < w.heap.size ∧ ∀ j (hj : j < Ld.length), w.cell? ⟨b, off + j, none⟩ = some (.int .i64 Ld[j]) from by
                rcases HL.out with e0 | hh
                · rw [e0] at hh1; simp at hh1
                · exact hh)
              have HCL : Hid (∀ W', Below w.heap.size w W' → W'.cell? ⟨bL, offL + (k * l.length + pa), none⟩ = some (.int .i64 (dk (D k) pa)) ∧ W'.cell? ⟨bL, offL + (k * l.length + pb), none⟩ = some (.int .i64 (dk (D k) pb))) := by
                intro W' hb
                rw [← hv1, ← hv2]
                exact ⟨(hb.cell (p := ⟨bL, offL + (k * l.length + pa), none⟩) hbL).trans (hcL _ hh1), (hb.cell (p := ⟨bL, offL + (k * l.length + pb), none⟩) hbL).trans (hcL _ hh2)⟩
              clear hv1 hv2 hcL hbL
              have hkl : k * l.length ≤ 4 * 64 := Nat.mul_le_mul (by omega) hl64
              obtain ⟨K1, hK1⟩ : ∃ K1, K1 = k * l.length := ⟨_, rfl⟩
              have hw1 : IntKind.i64.wrap ((k : Int) * (l.length : Int)) = (K1 : Int) := by
                have e1 : (k : Int) * (l.length : Int) = (K1 : Int) := by rw [hK1]; exact (Int.natCast_mul _ _).symm
                rw [e1]
                exact IntWalk.i64_in _ (by omega)
              rw [← hK1] at HCL hh1 hh2 hkl
              clear hK1
              have hw2 : IntKind.i64.wrap ((K1 : Int) + (pa : Int)) = ((K1 + pa : Nat) : Int) := by
                rw [Int.natCast_add]; exact IntWalk.i64_in _ (by omega)
              have hw3 : IntKind.i64.wrap ((K1 : Int) + (pb : Int)) = ((K1 + pb : Nat) : Int) := by
                rw [Int.natCast_add]; exact IntWalk.i64_in _ (by omega)
              generalize K1 + pa = M1 at *
              generalize K1 + pb = M2 at *
              have hm1 : (M1 : Int) < (Ld.length : Int) := by omega
              have hm2 : (M2 : Int) < (Ld.length : Int) := by omega
              generalize dk (D k) pa = x at *
              generalize dk (D k) pb = y at *
              have hkI : (k : Int) < (T.length : Int) := by omega
              clear hh1 hh2
              go_upto_region 7 with fail
              clear g0 g1 t0 t1 a0 a1 b0 b1
              have q0 := HQ1.out.below (bel_D _)
              have hkeep := And.intro (HCL.out _ q0.bel).1 (HS.out _ q0)
              go_region_held3 (fun w' => w'.cell? ⟨bL, offL + M1, none⟩ = some (.int .i64 x) ∧ w'.cell? ⟨w.heap.size, 0, none⟩ = some (.int .i64 side) ∧ w'.cell? ⟨w.heap.size, 1, none⟩ = some (.slice A l.length c) ∧ w'.cell? ⟨w.heap.size + 1, 0, none⟩ = some (.slice (some ⟨bm, offm, none⟩) T.length cm) ∧ w'.cell? ⟨w.heap.size + 1, 1, none⟩ = some (.slice (some ⟨bL, offL, none⟩) Ld.length cL) ∧ w'.cell? ⟨w.heap.size + 1 + 1, 0, none⟩ = some (.int .i64 ax) ∧ w'.cell? ⟨w.heap.size + 1 + 1, 1, none⟩ = some (.int .i64 ay) ∧ w'.cell? ⟨w.heap.size + 1 + 1 + 1, 0, none⟩ = some (.int .i64 bx) ∧ w'.cell? ⟨w.heap.size + 1 + 1 + 1, 1, none⟩ = some (.int .i64 b_y))
                (first | (with_reducible exact hkeep) | go_keep)
                (first | (go_at_call 48; refine (hA1 _ _ _ _).mono ?_; rintro e v1 ⟨rfl, hb⟩; clear hkeep; have q1 := q0.below hb; have hkeep := And.intro (HCL.out _ q1.bel).1 (HS.out _ q1); clear hb))
              all_goals
                have Q1 := Lib.hid q1
                clear hkeep q0 q1 HQ1
                obtain ⟨g0, g1, t0, t1, a0, a1, b0, b1⟩ := HS.out _ Q1.out
                go_upto_region 8 with fail
                clear g0 g1 t0 t1 a0 a1 b0 b1
                have q0 := Q1.out.below (bel_D _)
                have hkeep := And.intro (HCL.out _ q0.bel).2 (HS.out _ q0)
                go_region_held3 (fun w' => w'.cell? ⟨bL, offL + M2, none⟩ = some (.int .i64 y) ∧ w'.cell? ⟨w.heap.size, 0, none⟩ = some (.int .i64 side) ∧ w'.cell? ⟨w.heap.size, 1, none⟩ = some (.slice A l.length c) ∧ w'.cell? ⟨w.heap.size + 1, 0, none⟩ = some (.slice (some ⟨bm, offm, none⟩) T.length cm) ∧ w'.cell? ⟨w.heap.size + 1, 1, none⟩ = some (.slice (some ⟨bL, offL, none⟩) Ld.length cL) ∧ w'.cell? ⟨w.heap.size + 1 + 1, 0, none⟩ = some (.int .i64 ax) ∧ w'.cell? ⟨w.heap.size + 1 + 1, 1, none⟩ = some (.int .i64 ay) ∧ w'.cell? ⟨w.heap.size + 1 + 1 + 1, 0, none⟩ = some (.int .i64 bx) ∧ w'.cell? ⟨w.heap.size + 1 + 1 + 1, 1, none⟩ = some (.int .i64 b_y))
                  (first | (with_reducible exact hkeep) | go_keep)
                  (first | (go_at_call 48; refine (hA2 _ _ _ _).mono ?_; rintro e v2 ⟨rfl, hb⟩; clear hkeep; have q1 := q0.below hb; have hkeep := And.intro (HCL.out _ q1.bel).2 (HS.out _ q1); clear hb))
                all_goals
                  have Q2 := Lib.hid q1
                  clear hkeep q0 q1 Q1
                  have hy1 : IntKind.i64.wrap (x - y) = x - y := IntWalk.i64_in _ (by omega)
                  have hy2 : IntKind.i64.wrap (y - x) = y - x := IntWalk.i64_in _ (by omega)
                  clear hw1 hw2 hw3 hm1 hm2
                  by_cases hx : x < 0
                  · have hdx : decide (x < 0) = true := decide_eq_true hx
                    have hgx : ¬ x ≥ 0 := by omega
                    have hgx2 : ¬ 0 ≤ x := by omega
                    by_cases hy : y < 0
                    · have hdy : decide (y < 0) = true := decide_eq_true hy
                      have HR1 : Hid (bndTo D pa pb (k + 1) = some N) := by show _ = _; rw [HBN.out]; unfold bnd1; rw [hdx, hdy, if_neg (by simp), if_neg hgx2]
                      go_wp2_with fail
                      go_roundw
                      case rel => exact ⟨k + 1, N, by go_num, rfl, by omega, Q2.out, HR1.out⟩
                      case measure => simp [intOf] <;> omega
                    · have hdy : decide (y < 0) = false := decide_eq_false hy
                      have HR1 : Hid (bndTo D pa pb T.length = none) := HNO.out (by rw [HBN.out]; unfold bnd1; rw [hdx, hdy, if_pos (by simp)])
                      go_wp2_with fail
                      go_ret
                      exact ⟨by rw [HR1.out]; rfl, Q2.out.bel⟩
                  · have hdx : decide (x < 0) = false := decide_eq_false hx
                    have hgx : x ≥ 0 := by omega
                    have hgx2 : 0 ≤ x := by omega
                    by_cases hy : y < 0
                    · have hdy : decide (y < 0) = true := decide_eq_true hy
                      have HR1 : Hid (bndTo D pa pb T.length = none) := HNO.out (by rw [HBN.out]; unfold bnd1; rw [hdx, hdy, if_pos (by simp)])
                      go_wp2_with fail
                      go_ret
                      exact ⟨by rw [HR1.out]; rfl, Q2.out.bel⟩
                    · have hdy : decide (y < 0) = false := decide_eq_false hy
                      by_cases hxy : x ≥ y
                      · have HR1 : Hid (bndTo D pa pb (k + 1) = some (max N (x - y))) := by show _ = _; rw [HBN.out]; unfold bnd1; rw [hdx, hdy, if_neg (by simp), if_pos hgx2, if_pos hxy]
                        go_wp2_with fail
                        refine (mMax_any N (x - y) _).mono ?_
                        rintro e v3 ⟨rfl, rfl⟩
                        go_wp2_with fail
                        go_roundw
                        case rel => exact ⟨k + 1, _, by go_num, rfl, by omega, Q2.out, HR1.out⟩
                        case measure => simp [intOf] <;> omega
                      · have HR1 : Hid (bndTo D pa pb (k + 1) = some (max N (y - x))) := by show _ = _; rw [HBN.out]; unfold bnd1; rw [hdx, hdy, if_neg (by simp), if_pos hgx2, if_neg hxy]
                        go_wp2_with fail
                        refine (mMax_any N (y - x) _).mono ?_
                        rintro e v3 ⟨rfl, rfl⟩
                        go_wp2_with fail
                        go_roundw
                        case rel => exact ⟨k + 1, _, by go_num, rfl, by omega, Q2.out, HR1.out⟩
                        case measure => simp [intOf] <;> omega
            · obtain rfl : k = T.length := by omega
              go_wp2_with fail
              go_ret
              exact ⟨by rw [HN.out]; rfl, HQ1.out.bel⟩
end Go.Proofs.Ytghnanojmgddfaa
