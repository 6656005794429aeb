/- The program's ways: Dists, Dist. -/
import Derived.Test.YtmjbefjkkncjlaaWyY
import Derived.Deep.RegionWith
namespace Go.Proofs.Ytmjbefjkkncjlaa
open Go.RowKit
set_option linter.unusedVariables false
set_option linter.unusedSimpArgs false

set_option maxRecDepth 100000 in
set_option maxHeartbeats 1000000 in
theorem pDists_any (side fx fy : Int) (A : Option Addr) (c : Nat) (l : List Int) (d0 : List Int) (w : World) (h : RI w w.heap.size A l) (hl : l.length ≤ 1000000000) (hx : In64 fx) (hy : In64 fy) (hd : (gridRight side l && opn side l fx fy) = true → GDist side l fx fy d0) :
    Calls Try.prog 9 #[.agg #[.int .i64 side, .slice A l.length c], .agg #[.int .i64 fx, .int .i64 fy]] w fun e w' => NOut w w' (dOut side l fx fy d0) e := by
  cases hro : (gridRight side l && opn side l fx fy)
  · have HE : Hid (dOut side l fx fy d0 = []) := by show _ = _; rw [dOut, hro]; rfl
    rw [HE.out]
    have hOp := fun w h => pOpen5_any side fx fy A c l w h hl hx hy
    rw [hro] at hOp
    have HB := Lib.hid (B2.made w side A c l fx fy)
    have H := Lib.hid h
    clear h hl hx hy hd hro
    refine (callsIn_wide (n := 9)).1 ?_
    refine callsIn_of_wp_marks Try.func9 rfl trivial ?_ rfl
    simp only [Try.ntmps9, List.size_toArray, List.length_cons, List.length_nil, Nat.reduceAdd, Nat.reduceSub, Array.replicate_succ, Array.replicate_zero, List.push_toArray, List.append_toArray, List.nil_append, List.cons_append]
    refine wpIn_wide.2 ?_
    go_wp2_with fail
    refine (hOp _ ((H.out.below HB.out.bel).mono HB.out.bel.size)).mono ?_
    rintro e w1 ⟨rfl, hb1⟩
    have HB1 := Lib.hid (HB.out.below hb1)
    clear hb1 HB hOp
    go_wp2_with fail
    refine ⟨_, results_tmp rfl _ _ _, ?_⟩
    exact ⟨none, 0, rfl, World.ownsRow_nil _ _ _ _, HB1.out.bel⟩
  · have h2 := hro
    simp only [Bool.and_eq_true] at h2
    have HE : Hid (dOut side l fx fy d0 = d0) := by show _ = _; rw [dOut, hro]; rfl
    rw [HE.out]
    exact pDists_main side fx fy A c l d0 w h h2.1 h2.2 (hd hro)
end Go.Proofs.Ytmjbefjkkncjlaa
