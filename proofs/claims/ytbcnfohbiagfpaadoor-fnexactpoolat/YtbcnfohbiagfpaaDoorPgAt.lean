/- The program's pools: PoolAt. -/
import Derived.Test.YtbcnfohbiagfpaaDoorPgG
import Derived.Test.YtbcnfohbiagfpaaDoorTlJ
import Derived.Test.YtbcnfohbiagfpaaDoorPgB
namespace Go.Proofs.YtbcnfohbiagfpaaDoor
open Go.RowKit
set_option linter.unusedVariables false
set_option linter.unusedSimpArgs false

theorem field_got (a b c : Value) (w : World) : (Instr.field 37 (.agg #[a, b, c]) 0).run Tryd.prog w = .ok (.agg #[a, b]) w := by kernel_rfl
/-- Beside a code stands the zero map. -/
theorem getP_zero {l : List Nd} {rt side : Int} (h : (getP l rt side).1 ≠ 0) : (getP l rt side).2.1 = 0 ∧ (getP l rt side).2.2 = [] := by
  unfold getP at h ⊢
  split
  · next hr =>
    rw [if_pos hr] at h
    unfold getG at h ⊢
    split
    · next h1 =>
      rw [if_pos h1] at h
      split
      · next h2 => rw [if_pos h2] at h; exact absurd rfl h
      · exact ⟨rfl, rfl⟩
    · exact ⟨rfl, rfl⟩
  · exact ⟨rfl, rfl⟩
theorem atP_eq (l : List Nd) (rt side x y : Int) : tileAt (getP l rt side).2.1 (getP l rt side).2.2 x y = atP l rt side x y := by
  unfold atP
  by_cases h : (getP l rt side).1 = 0
  · rw [if_pos h]
  · rw [if_neg h, (getP_zero h).1, (getP_zero h).2]
    have : gridRight 0 [] = false := by decide
    simp [tileAt, this]

set_option maxRecDepth 100000 in
set_option maxHeartbeats 1000000 in
theorem pPoolAt_any (A : Option Addr) (c : Nat) (l : List Nd) (rt side x y : Int) (w : World) (h : RN w w.heap.size A l) (hl : l.length ≤ 1048576) (hc : l.length ≤ c) (hf : ∀ n ∈ l, n.Fits) (hx : In64 x) (hy : In64 y) (htab : HasTab w) :
    Calls Tryd.prog 21 #[.agg #[.slice A l.length c], .int .i64 rt, .int .i64 side, .int .i64 x, .int .i64 y] w fun e w' => e = .returned (.int .i64 (atP l rt side x y)) ∧ Below w.heap.size w w' := by
  have HP0 := Lib.hid (PB.made w A c l h)
  have HT0 := Lib.hid (htab.below ((Below.refl _ _).alloc (Nat.le_refl _) (.cells #[.slice A l.length c] 25)))
  have hG := fun w h ht => pPoolGet_any A c l rt side w h hl hc hf ht
  have hT := getP_len l rt side
  have HE := Lib.hid (atP_eq l rt side x y)
  rw [← HE.out]
  clear h HE hf htab
  generalize getP l rt side = RES at *
  obtain ⟨C, S, T⟩ := RES
  simp only at hG hT ⊢
  have hA := fun A' c' w h => pTileAt_any S x y A' c' T w h (by omega) hx hy
  have hfd := field_got
  clear hx hy
  go_enter Tryd.func21, Tryd.ntmps21
  go_wp2_with fail
  refine (hG _ HP0.out.rn HT0.out).mono ?_
  rintro e w1 ⟨A1, c1, rfl, ho1, hb1⟩
  have HP1 := Lib.hid (HP0.out.below hb1)
  have HO1 := Lib.hid ho1
  clear hb1 ho1 HP0 HT0
  go_wp2_with fail
  refine (hA A1 c1 _ HO1.out.ri).mono ?_
  rintro e w3 ⟨rfl, hb3⟩
  have HP3 := Lib.hid (HP1.out.below hb3)
  clear hb3
  go_wp2
  go_ret
  exact ⟨rfl, HP3.out.bel⟩
end Go.Proofs.YtbcnfohbiagfpaaDoor
