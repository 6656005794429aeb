/- The model's pools: PoolAt. -/
import Derived.Test.YtbcnfohbiagfpaaDoorTlI
import Derived.Test.YtbcnfohbiagfpaaDoorGridA
namespace Go.Proofs.YtbcnfohbiagfpaaDoor
open Go.RowKit
set_option linter.unusedVariables false
set_option linter.unusedSimpArgs false

/-- What PoolAt answers. -/
def atP (l : List Nd) (rt side x y : Int) : Int := if (getP l rt side).1 = 0 then tileAt (getP l rt side).2.1 (getP l rt side).2.2 x y else -1

set_option maxRecDepth 100000 in
set_option maxHeartbeats 1000000 in
theorem mPoolAt_any (A : Option Addr) (c : Nat) (l : List Nd) (rt side x y : Int) (w : World) (h : RN w w.heap.size A l) (hl : l.length ≤ 1000000000) :
    Calls Tryd.prog 22 #[.agg #[.slice A l.length c], .int .i64 rt, .int .i64 side, .int .i64 x, .int .i64 y] w fun e w' => e = .returned (.int .i64 (atP l rt side x y)) ∧ Below w.heap.size w w' := by
  have HP0 := Lib.hid (PB.made w A c l h)
  have hG := fun w h => mPoolGet_any A c l rt side w h hl
  have hT := getP_len l rt side
  have HE : Hid (atP l rt side x y = if (getP l rt side).1 = 0 then tileAt (getP l rt side).2.1 (getP l rt side).2.2 x y else -1) := rfl
  rw [HE.out]
  clear h HE
  generalize getP l rt side = RES at *
  obtain ⟨C, S, T⟩ := RES
  simp only at hG hT ⊢
  by_cases hC : C = 0
  · subst hC
    rw [if_pos rfl]
    have hA := fun A' c' w h => mTileAt_any S x y A' c' T w h (by omega)
    go_enter Tryd.func22, Tryd.ntmps22
    go_wp2_with fail
    refine (hG _ HP0.out.rn).mono ?_
    rintro e w1 ⟨A1, c1, rfl, ho1, hb1⟩
    have HP1 := Lib.hid (HP0.out.below hb1)
    have HO1 := Lib.hid ho1
    clear hb1 ho1
    go_wp2_with fail
    have hb2 : Below w1.heap.size w1 (w1.alloc (.cells #[.int .i64 S, .slice A1 T.length c1, .int .i64 0] 37)) := (Below.refl _ _).alloc (Nat.le_refl _) _
    refine (hA A1 c1 _ ((HO1.out.ri.below hb2).mono (by simp))).mono ?_
    rintro e w3 ⟨rfl, hb3⟩
    have HP3 := Lib.hid ((HP1.out.below hb2).below hb3)
    clear hb2 hb3
    go_wp2
    exact bodyPost_ret (v := .int .i64 (tileAt S T x y)) (by simp [results, Tryd.results22, go_sem]) rfl ⟨rfl, HP3.out.bel⟩
  · rw [if_neg hC]
    go_enter Tryd.func22, Tryd.ntmps22
    go_wp2_with fail
    refine (hG _ HP0.out.rn).mono ?_
    rintro e w1 ⟨A1, c1, rfl, ho1, hb1⟩
    have HP1 := Lib.hid (HP0.out.below hb1)
    clear hb1 ho1
    go_wp2
    exact bodyPost_ret (v := .int .i64 (-1)) (by simp [results, Tryd.results22, go_sem]) rfl ⟨rfl, HP1.out.bel.alloc HP1.out.bel.size _⟩
end Go.Proofs.YtbcnfohbiagfpaaDoor
