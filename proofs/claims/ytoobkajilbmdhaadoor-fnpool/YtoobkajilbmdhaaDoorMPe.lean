/- Several texts in one: TlV, PgS, PgU, PgV, PgX, PgY, PgZ, PgPP, PgSet, PgPn, FPp, PgAt. -/
import Derived.Test.YtoobkajilbmdhaaDoorMPb
import Derived.Test.YtoobkajilbmdhaaDoorPgQ
import Derived.Lib.SliceRun
import Derived.Laws.EntriesVeiled
import Derived.Test.YtoobkajilbmdhaaDoorPgG
import Derived.Test.YtoobkajilbmdhaaDoorPgB
import Derived.Test.YtoobkajilbmdhaaDoorMPd
namespace Go.Proofs.YtoobkajilbmdhaaDoor
open Go.RowKit
set_option linter.unusedVariables false
set_option linter.unusedSimpArgs false

/-- PoolSet's boxes: the pool's, the answer's. -/
structure SB (w : World) (A : Option Addr) (c : Nat) (l : List Nd) (wr : World) : Prop where
  p : PB w A c l wr
  c0 : wr.cell? ⟨w.heap.size + 1, 0, none⟩ = some (.slice none 0 0)
  c1 : wr.cell? ⟨w.heap.size + 1, 1, none⟩ = some (.int .i64 0)
  c2 : wr.cell? ⟨w.heap.size + 1, 2, none⟩ = some (.int .i64 0)
  f0 : wr.frozen? ⟨w.heap.size + 1, 0, none⟩ = false
  f1 : wr.frozen? ⟨w.heap.size + 1, 1, none⟩ = false
  f2 : wr.frozen? ⟨w.heap.size + 1, 2, none⟩ = false
  siz : w.heap.size + 1 < wr.heap.size
theorem SB.step {w : World} {A : Option Addr} {c : Nat} {l : List Nd} {wr wr' : World} (h : SB w A c l wr) (hb : Below (w.heap.size + 1 + 1) wr wr') : SB w A c l wr' :=
  ⟨h.p.below1 (hb.mono (Nat.le_succ _)), (hb.cell (p := ⟨w.heap.size + 1, 0, none⟩) (Nat.lt_succ_self _)).trans h.c0, (hb.cell (p := ⟨w.heap.size + 1, 1, none⟩) (Nat.lt_succ_self _)).trans h.c1, (hb.cell (p := ⟨w.heap.size + 1, 2, none⟩) (Nat.lt_succ_self _)).trans h.c2, (hb.frozen (p := ⟨w.heap.size + 1, 0, none⟩) (Nat.lt_succ_self _)).trans h.f0, (hb.frozen (p := ⟨w.heap.size + 1, 1, none⟩) (Nat.lt_succ_self _)).trans h.f1, (hb.frozen (p := ⟨w.heap.size + 1, 2, none⟩) (Nat.lt_succ_self _)).trans h.f2, Nat.lt_of_lt_of_le h.siz hb.size⟩
theorem got_place {side x y : Int} {n : Nat} (hs : sideOk side = true) (hl : n = side.toNat * side.toNat) (hi : gridIn side x y = true) : ∃ j : Nat, y * side + x = j ∧ j < n ∧ IntKind.i64.wrap (y * side) = y * side ∧ IntKind.i64.wrap (y * side + x) = y * side + x := by
  obtain ⟨h1, h2, h3, h4⟩ := gridIn_iff.1 hi
  have key : 0 ≤ y * side + x ∧ y * side + x < ((side.toNat * side.toNat : Nat) : Int) ∧ 0 ≤ y * side ∧ y * side ≤ 1000 ∧ side ≤ 8 := by
    rcases (sideOk_iff side).1 hs with rfl | rfl | rfl | rfl <;> refine ⟨by omega, ?_, by omega, by omega, by omega⟩ <;> simp <;> omega
  obtain ⟨e1, e2, e3, e4, e5⟩ := key
  rw [← hl] at e2
  exact ⟨(y * side + x).toNat, by omega, by omega, IntWalk.i64_in _ (by omega), IntWalk.i64_in _ (by omega)⟩
theorem SB.below {w : World} {A : Option Addr} {c : Nat} {l : List Nd} {wr wr' : World} (h : SB w A c l wr) (hb : Below wr.heap.size wr wr') : SB w A c l wr' :=
  ⟨h.p.below hb, (hb.cell (p := ⟨w.heap.size + 1, 0, none⟩) h.siz).trans h.c0, (hb.cell (p := ⟨w.heap.size + 1, 1, none⟩) h.siz).trans h.c1, (hb.cell (p := ⟨w.heap.size + 1, 2, none⟩) h.siz).trans h.c2, (hb.frozen (p := ⟨w.heap.size + 1, 0, none⟩) h.siz).trans h.f0, (hb.frozen (p := ⟨w.heap.size + 1, 1, none⟩) h.siz).trans h.f1, (hb.frozen (p := ⟨w.heap.size + 1, 2, none⟩) h.siz).trans h.f2, Nat.lt_of_lt_of_le h.siz hb.size⟩
theorem SB.made (w : World) (A : Option Addr) (c : Nat) (l : List Nd) (h : RN w w.heap.size A l) : SB w A c l ((w.alloc (.cells #[.slice A l.length c] 25)).alloc (.cells #[.slice none 0 0, .int .i64 0, .int .i64 0] 32)) :=
  ⟨(PB.made w A c l h).below ((Below.refl _ _).alloc (Nat.le_refl _) _), by simp [go_sem], by simp [go_sem], by simp [go_sem], by simp [go_sem], by simp [go_sem], by simp [go_sem], by simp⟩

set_option maxRecDepth 100000 in
set_option maxHeartbeats 1000000 in
theorem mPoolSet_any (A : Option Addr) (c : Nat) (l : List Nd) (rt side x y tile : Int) (w : World) (h : RN w w.heap.size A l) (hl : l.length ≤ 1000000000) :
    Calls Tryd.prog 19 #[.agg #[.slice A l.length c], .int .i64 rt, .int .i64 side, .int .i64 x, .int .i64 y, .int .i64 tile] w (POut w (setP l rt side x y tile)) := by
  have hG := fun w h => mPoolGet_any A c l rt side w h hl
  have hT := getP_len l rt side
  have HS0 := Lib.hid (SB.made w A c l h)
  clear h
  by_cases hC : (getP l rt side).1 = 0
  · obtain ⟨hr, hs, h1, h2, h3⟩ := getP_ok hC
    have hIn := fun A' n' c' w => mIn_any side x y A' n' c' w hs
    have hTi := mTile_any tile
    cases hi : gridIn side x y
    · have HE : Hid (setP l rt side x y tile = (8, 0, [])) := by show _ = _; simp [setP, hC, hi]
      rw [HE.out]
      rw [hi] at hIn
      have hIll := mPIll_any 8
      clear HE
      generalize getP l rt side = RES at *
      obtain ⟨C, S, T⟩ := RES
      simp only at hG hT hC h1 h2 ⊢
      subst hC h1
      have HL2 := Lib.hid h2
      clear h2
      go_enter Tryd.func19, Tryd.ntmps19
      go_wp2_with fail
      refine (hG _ HS0.out.p.rn).mono ?_
      rintro e w1 ⟨A1, c1, rfl, ho1, hb1⟩
      have HS1 := Lib.hid ((HS0.out.below hb1).below ((Below.refl _ _).alloc (Nat.le_refl _) (.cells #[.int .i64 S, .slice A1 T.length c1, .int .i64 0] 37)))
      clear hb1 ho1
      go_wp2_with fail
      refine (hIn _ _ _ _).mono ?_
      rintro e w2 ⟨rfl, hb2⟩
      have HS2 := Lib.hid (HS1.out.below hb2)
      clear hb2
      go_wp2_with fail
      refine (hIll _).mono ?_
      rintro e w4 ⟨rfl, hb4⟩
      have HS4 := Lib.hid (HS2.out.below hb4)
      obtain ⟨_, c0, c1', c2, f0, f1, f2, hz4⟩ := HS4.out
      clear hb4
      go_wp2
      refine bodyPost_ret (v := .agg #[.slice none 0 0, .int .i64 0, .int .i64 8]) (by simp [results, Tryd.results19, go_sem, c0, c1', c2]) rfl ⟨none, 0, rfl, OwnN.nil _ _, ?_⟩
      exact ((HS4.out.p.bel.setCell (by simp) _).setCell (by simp) _).setCell (by simp) _
    · cases ht : tileOk tile
      · have HE : Hid (setP l rt side x y tile = (1, 0, [])) := by show _ = _; simp [setP, hC, hi, ht]
        rw [HE.out]
        rw [hi] at hIn
        rw [ht] at hTi
        have hIll := mPIll_any 1
        clear HE
        generalize getP l rt side = RES at *
        obtain ⟨C, S, T⟩ := RES
        simp only at hG hT hC h1 h2 ⊢
        subst hC h1
        have HL2 := Lib.hid h2
        clear h2
        go_enter Tryd.func19, Tryd.ntmps19
        go_wp2_with fail
        refine (hG _ HS0.out.p.rn).mono ?_
        rintro e w1 ⟨A1, c1, rfl, ho1, hb1⟩
        have HS1 := Lib.hid ((HS0.out.below hb1).below ((Below.refl _ _).alloc (Nat.le_refl _) (.cells #[.int .i64 S, .slice A1 T.length c1, .int .i64 0] 37)))
        clear hb1 ho1
        go_wp2_with fail
        refine (hIn _ _ _ _).mono ?_
        rintro e w2 ⟨rfl, hb2⟩
        have HS2 := Lib.hid (HS1.out.below hb2)
        clear hb2
        go_wp2_with fail
        refine (hTi _).mono ?_
        rintro e w3 ⟨rfl, rfl⟩
        go_wp2_with fail
        refine (hIll _).mono ?_
        rintro e w4 ⟨rfl, hb4⟩
        have HS4 := Lib.hid (HS2.out.below hb4)
        obtain ⟨_, c0, c1', c2, f0, f1, f2, hz4⟩ := HS4.out
        clear hb4
        go_wp2
        refine bodyPost_ret (v := .agg #[.slice none 0 0, .int .i64 0, .int .i64 1]) (by simp [results, Tryd.results19, go_sem, c0, c1', c2]) rfl ⟨none, 0, rfl, OwnN.nil _ _, ?_⟩
        exact ((HS4.out.p.bel.setCell (by simp) _).setCell (by simp) _).setCell (by simp) _
      · have HE : Hid (setP l rt side x y tile = putR l side.toNat ((getP l rt side).2.2.set (y * side + x).toNat tile)) := by show _ = _; simp [setP, hC, hi, ht]
        rw [HE.out]
        obtain ⟨j, hj, hjl, hw1, hw2⟩ := got_place hs h2 hi
        rw [hj] at hw2
        rw [hj, Int.toNat_natCast]
        have HJ := Lib.hid hj
        rw [hi] at hIn
        rw [ht] at hTi
        clear HE hi ht
        generalize getP l rt side = RES at *
        obtain ⟨C, S, T⟩ := RES
        simp only at hG hT hC h1 h2 ⊢
        subst hC h1
        have HL2 := Lib.hid h2
        clear h2
        go_enter Tryd.func19, Tryd.ntmps19
        go_wp2_with fail
        refine (hG _ HS0.out.p.rn).mono ?_
        rintro e w1 ⟨A1, c1, rfl, ho1, hb1⟩
        have HS1 := Lib.hid ((HS0.out.below hb1).below ((Below.refl _ _).alloc (Nat.le_refl _) (.cells #[.int .i64 S, .slice A1 T.length c1, .int .i64 0] 37)))
        have HO1 := Lib.hid ho1
        obtain ⟨g, rfl, hg1, hg2, _, _⟩ := ho1.at_ hjl
        have hg1' : w.heap.size + 1 + 1 ≤ g := by simpa using hg1
        have k0 : (w1.alloc (.cells #[.int .i64 S, .slice (some ⟨g, 0, none⟩) T.length c1, .int .i64 0] 37)).cell? ⟨w1.heap.size, 0, none⟩ = some (.int .i64 S) := by simp [go_sem]
        have k1 : (w1.alloc (.cells #[.int .i64 S, .slice (some ⟨g, 0, none⟩) T.length c1, .int .i64 0] 37)).cell? ⟨w1.heap.size, 1, none⟩ = some (.slice (some ⟨g, 0, none⟩) T.length c1) := by simp [go_sem]
        have HK0 := Lib.hid k0
        have HK1 := Lib.hid k1
        clear k0 k1 hg1
        clear hb1 ho1
        go_wp2_with fail
        refine (hIn _ _ _ _).mono ?_
        rintro e w2 ⟨rfl, hb2⟩
        have HS2 := Lib.hid (HS1.out.below hb2)
        have k0 := (hb2.cell (p := ⟨w1.heap.size, 0, none⟩) (by simp)).trans HK0.out
        have k1 := (hb2.cell (p := ⟨w1.heap.size, 1, none⟩) (by simp)).trans HK1.out
        have ho2 := (HO1.out.keep ((Below.refl _ _).alloc (Nat.le_refl _) (.cells #[.int .i64 S, .slice (some ⟨g, 0, none⟩) T.length c1, .int .i64 0] 37))).keep hb2
        have HO3 := Lib.hid (ho2.store (j := j) tile).1
        obtain ⟨g', e', _, _, hcj, hfj⟩ := ho2.at_ hjl
        cases e'
        have hz2 : w1.heap.size < w2.heap.size := by have := hb2.size; simp at this; omega
        have HK2 := Lib.hid k0
        have HK3 := Lib.hid k1
        clear hb2 ho2
        go_wp2_with fail
        refine (hTi _).mono ?_
        rintro e w3 ⟨rfl, rfl⟩
        have hb3 : Below (w.heap.size + 1 + 1) w2 (w2.setCell ⟨g, j, none⟩ (.int .i64 tile)) := (Below.refl _ _).setCell hg1' _
        have HS3 := Lib.hid (HS2.out.step hb3)
        clear hb3
        have p0 := HS2.out.p.c0
        have n1 : g ≠ w.heap.size := by omega
        have n2 : w.heap.size ≠ g := by omega
        have n3 : g ≠ w1.heap.size := by omega
        have n4 : w1.heap.size ≠ g := by omega
        go_wp2_with fail
        have h200 := pool_len hr
        have hsb := side_bound hs
        have eS : ((S.toNat : Nat) : Int) = S := by omega
        rcases HS3.out.p.rn with hnil | ⟨b, off, rfl, hbl, hn⟩
        · exact absurd hnil h3
        have hPut := mPut_any b off c c1 S.toNat l (some ⟨g, 0, none⟩) (T.set j tile) _ hbl hn (by omega) HO3.out.ri (by rw [eS]; exact hs) (by rw [List.length_set]; exact HL2.out)
        rw [eS, List.length_set] at hPut
        refine hPut.mono ?_
        rintro e w4 ⟨A4, c4, rfl, ho4, hb4⟩
        have HS4 := Lib.hid (HS3.out.below hb4)
        have HO4 := Lib.hid (OwnN.lower (base' := w.heap.size + 1 + 1) HS3.out.siz ho4)
        obtain ⟨_, c0, c1', c2, f0, f1, f2, hz4⟩ := HS4.out
        clear hb4 ho4 hPut n1 n2 n3 n4 p0 k0 k1 hcj hfj
        generalize putR l S.toNat (T.set j tile) = R at *
        obtain ⟨rc, rr, rl⟩ := R
        simp only at HO4
        go_wp2_with fail
        refine bodyPost_ret (v := .agg #[.slice A4 rl.length c4, .int .i64 rr, .int .i64 rc]) (by simp [results, Tryd.results19, go_sem, c0, c1', c2]) rfl ⟨A4, c4, rfl, ?_, ?_⟩
        · exact OwnN.lower (base := w.heap.size + 1 + 1) (by omega) (OwnN.set_below (by show w.heap.size + 1 < _; omega) _ (OwnN.set_below (by show w.heap.size + 1 < _; omega) _ (OwnN.set_below (by show w.heap.size + 1 < _; omega) _ HO4.out)))
        · exact ((HS4.out.p.bel.setCell (by simp) _).setCell (by simp) _).setCell (by simp) _
  · have HE : Hid (setP l rt side x y tile = ((getP l rt side).1, 0, [])) := by show _ = _; simp [setP, hC]
    rw [HE.out]
    clear HE
    generalize getP l rt side = RES at *
    obtain ⟨C, S, T⟩ := RES
    simp only at hG hT hC ⊢
    have hIll := mPIll_any C
    go_enter Tryd.func19, Tryd.ntmps19
    go_wp2_with fail
    refine (hG _ HS0.out.p.rn).mono ?_
    rintro e w1 ⟨A1, c1, rfl, ho1, hb1⟩
    have HS1 := Lib.hid ((HS0.out.below hb1).below ((Below.refl _ _).alloc (Nat.le_refl _) (.cells #[.int .i64 S, .slice A1 T.length c1, .int .i64 C] 37)))
    clear hb1 ho1
    go_wp2_with fail
    refine (hIll _).mono ?_
    rintro e w4 ⟨rfl, hb4⟩
    have HS4 := Lib.hid (HS1.out.below hb4)
    obtain ⟨_, c0, c1', c2, f0, f1, f2, hz4⟩ := HS4.out
    clear hb4
    go_wp2
    refine bodyPost_ret (v := .agg #[.slice none 0 0, .int .i64 0, .int .i64 C]) (by simp [results, Tryd.results19, go_sem, c0, c1', c2]) rfl ⟨none, 0, rfl, OwnN.nil _ _, ?_⟩
    exact ((HS4.out.p.bel.setCell (by simp) _).setCell (by simp) _).setCell (by simp) _
end Go.Proofs.YtoobkajilbmdhaaDoor

namespace Go.Proofs.YtoobkajilbmdhaaDoor
open Go.RowKit
set_option linter.unusedVariables false

/-- Block B is a map of at most n entries that tells where each node stands. -/
def MapI (w : World) (B n : Nat) (f : Nd → Option Nat) : Prop :=
  ∃ D : DataW Unit, w.ownsMap Tryd.prog 84 (plainElem Tryd.prog 2) B n D ∧ ∀ x : Nd, x.Fits → Maps.has D (keyN x) = (f x).isSome ∧ D.atKey (keyN x) (.lit (.int .i64 0)) = .lit (.int .i64 (((f x).getD 0 : Nat) : Int))
theorem MapI.made (w : World) : MapI (w.alloc (.map #[] 0)) w.heap.size 0 (fun _ => none) := ⟨.map [], World.ownsMap_made _ _ _ _, fun x _ => ⟨rfl, rfl⟩⟩
theorem MapI.lt {w : World} {B n : Nat} {f : Nd → Option Nat} (h : MapI w B n f) : B < w.heap.size := by obtain ⟨D, h1, h2⟩ := h; exact h1.lt
theorem MapI.keep {w w' : World} {B n : Nat} {f : Nd → Option Nat} (h : MapI w B n f) (hb : w'.heap[B]? = w.heap[B]?) : MapI w' B n f := by
  obtain ⟨D, ⟨es, clock, hh, F, hs, hD⟩, h2⟩ := h
  exact ⟨D, ⟨es, clock, hb.trans hh, F, hs, hD⟩, h2⟩
theorem zero_int (w : World) : (zeroValue 2).run Tryd.prog w = .ok (.int .i64 0) w := by kernel_rfl
theorem MapI.look {w : World} {B n : Nat} {f : Nd → Option Nat} (h : MapI w B n f) {x : Nd} (hx : x.Fits) :
    (Instr.lookup 74 (.map (some B)) x.val true).run Tryd.prog w = .ok (.tuple #[.int .i64 (((f x).getD 0 : Nat) : Int), .bool (f x).isSome]) w := by
  obtain ⟨D, h1, h2⟩ := h
  obtain ⟨v, ps, hrun, hv⟩ := h1.look_ok law_nd Tryd.underlying74 (zero_int w) (plainElem_int Tryd.underlying2 (by decide)) (keyN_is hx)
  rw [(h2 x hx).2] at hv
  rw [hrun, (h2 x hx).1]
  obtain ⟨c, rfl, hc, _⟩ := plainElem_int_inv Tryd.underlying2 hv
  simp only [Prod.mk.injEq, DataW.lit.injEq, Lit.int.injEq, true_and] at hc
  rw [hc.1]
theorem MapI.put {w : World} {B n : Nat} {f : Nd → Option Nat} (h : MapI w B n f) {x : Nd} (hx : x.Fits) (hn : n < maxLen) {i : Nat} (hi : i ≤ 1000000) :
    ∃ w', (Instr.mapUpdate 74 (.map (some B)) x.val (.int .i64 i)).run Tryd.prog w = .ok () w' ∧ MapI w' B (n + 1) (fun z => if z = x then some i else f z) ∧ w.grownBy w' (some B) := by
  obtain ⟨D, h1, h2⟩ := h
  have hw : (Lit.int .i64 (i : Int)).wf = true := by simp [Lit.wf, IntKind.min, IntKind.max, IntKind.bits, IntKind.signed]; omega
  obtain ⟨w', hrun, ho, hg⟩ := h1.update law_nd Tryd.underlying74 hn (keyN_is hx) (plainElem_int Tryd.underlying2 hw)
  refine ⟨w', hrun, ⟨_, ho, fun y hy => ?_⟩, hg⟩
  by_cases e : y = x
  · subst e
    rw [Maps.atKey_put_same h1.isMap (keyN_key _), Maps.has_put_same h1.isMap (keyN_key _)]
    simp
  · rw [Maps.atKey_put_other (keyN_ne hy hx e), Maps.has_put_other (keyN_ne hy hx e), (h2 y hy).1, (h2 y hy).2]
    simp [e]
theorem MapI.fits {w : World} {B n : Nat} {f g : Nd → Option Nat} (h : MapI w B n f) (e : ∀ z, f z = g z) : MapI w B n g := by
  obtain ⟨D, h1, h2⟩ := h
  exact ⟨D, h1, fun x hx => by rw [← e x]; exact h2 x hx⟩
theorem find_snoc {l : List Nd} {x : Nd} (hx : l.findIdx? (fun y => y == x) = none) (z : Nd) : (l ++ [x]).findIdx? (fun y => y == z) = if z = x then some l.length else l.findIdx? (fun y => y == z) := by
  rw [List.findIdx?_append]
  by_cases e : z = x
  · subst e
    rw [hx]
    simp
  · have : (x == z) = false := by simpa using fun h => e h.symm
    simp [e, this]

/-- The shelf in its box. -/
structure SS (base p m : Nat) (v : Value) (l : List Nd) (w : World) : Prop where
  ps : PS base p v l w
  c1 : w.cell? ⟨p, 1, none⟩ = some (.map (some m))
  map : MapI w m l.length (fun x => l.findIdx? (fun y => y == x))
  hm : base ≤ m
  nm : m ≠ p
  nr : v.ownBlock ≠ some m
theorem SS.below {base p m : Nat} {v : Value} {l : List Nd} {w w' : World} (h : SS base p m v l w) (hb : Below w.heap.size w w') : SS base p m v l w' :=
  ⟨h.ps.below hb, (hb.cell (p := ⟨p, 1, none⟩) h.ps.lt).trans h.c1, h.map.keep (hb.block m h.map.lt), h.hm, h.nm, h.nr⟩

set_option maxRecDepth 100000 in
set_option maxHeartbeats 2000000 in
theorem pKeep_any (base p m : Nat) (v : Value) (l : List Nd) (x : Nd) (w : World) (h : SS base p m v l w) (hf : x.Fits) (hl : l.length ≤ 100000) :
    Calls Tryd.prog 89 #[.pointer (some ⟨p, 0, none⟩), x.val] w fun e w' => e = .returned (.int .i64 (addN l x).2) ∧ ∃ v', SS base p m v' (addN l x).1 w' ∧ PG p m v v' w w' := by
  obtain ⟨i0, hi, hz0, hz1, hz2⟩ := info_parts Tryd.infoNode
  obtain ⟨A, c, rfl⟩ := h.ps.own.form
  have HFX := Lib.hid hf
  clear hf
  obtain ⟨xt, xa, xb, xc, xd⟩ := x
  unfold Nd.val at *
  simp only at *
  have hbw : Below w.heap.size w (w.alloc (.cells #[.int .i64 xt, .int .i64 xa, .int .i64 xb, .int .i64 xc, .int .i64 xd] 84)) := (Below.refl _ _).alloc (Nat.le_refl _) _
  have hx0 : NdAt (w.alloc (.cells #[.int .i64 xt, .int .i64 xa, .int .i64 xb, .int .i64 xc, .int .i64 xd] 84)) w.heap.size 0 ⟨xt, xa, xb, xc, xd⟩ := ⟨by simp [go_sem], by simp [go_sem], by simp [go_sem], by simp [go_sem], by simp [go_sem]⟩
  have HP := Lib.hid (h.below hbw)
  have HX := Lib.hid hx0
  have hpl := h.ps.lt
  have HML := Lib.hid h.map.lt
  have hzW : w.heap.size < (w.alloc (.cells #[.int .i64 xt, .int .i64 xa, .int .i64 xb, .int .i64 xc, .int .i64 xd] 84)).heap.size := by simp
  have HBW := Lib.hid hbw
  clear h hx0 hbw
  have hlk := (HP.out.below (Below.refl _ _).drew).map.look HFX.out
  unfold Nd.val at hlk
  simp only at hlk
  cases hfi : l.findIdx? (fun y => y == (⟨xt, xa, xb, xc, xd⟩ : Nd)) with
  | some k =>
    have HA : Hid (addN l ⟨xt, xa, xb, xc, xd⟩ = (l, k)) := by show _ = _; simp only [addN, hfi]
    rw [hfi] at hlk
    simp only [Option.getD_some, Option.isSome_some] at hlk
    rw [HA.out]
    clear hfi
    go_enter Tryd.func89, Tryd.ntmps89
    go_wp2_with fail
    generalize w.alloc (.cells #[.int .i64 xt, .int .i64 xa, .int .i64 xb, .int .i64 xc, .int .i64 xd] 84) = W at *
    have c0 := HP.out.ps.c0
    have c1 := HP.out.c1
    obtain ⟨e0, e1, e2, e3, e4⟩ := HX.out.five
    simp only at e0 e1 e2 e3 e4
    go_region
    all_goals
      go_wp2
      go_ret
      exact ⟨rfl, _, HP.out.below (Below.refl _ _).drew, PG.below HBW.out.drew⟩
  | none =>
    have HA : Hid (addN l ⟨xt, xa, xb, xc, xd⟩ = (l ++ [⟨xt, xa, xb, xc, xd⟩], l.length)) := by show _ = _; simp only [addN, hfi]
    have HFI := Lib.hid hfi
    rw [hfi] at hlk
    simp only [Option.getD_none, Option.isSome_none] at hlk
    rw [HA.out]
    clear hfi
    go_enter Tryd.func89, Tryd.ntmps89
    go_wp2_with fail
    generalize hWW : w.alloc (.cells #[.int .i64 xt, .int .i64 xa, .int .i64 xb, .int .i64 xc, .int .i64 xd] 84) = W at *
    clear hWW
    have c0 := HP.out.ps.c0
    have c1 := HP.out.c1
    obtain ⟨e0, e1, e2, e3, e4⟩ := HX.out.five
    simp only at e0 e1 e2 e3 e4
    go_region
    go_wp2_with fail
    have HP2 := Lib.hid (HP.out.below (Below.refl _ _).drew)
    have HX2 : Hid (NdAt W.drew w.heap.size 0 ⟨xt, xa, xb, xc, xd⟩) := HX.out.keep rfl
    have HB2 := Lib.hid HBW.out.drew
    have hz2' : w.heap.size < W.drew.heap.size := hzW
    clear HP HX HBW hzW hlk e0 e1 e2 e3 e4 c0 c1
    generalize W.drew = W2 at *
    obtain ⟨w3, hrun, hm3, hg3⟩ := MapI.put (HP2.out.below (Below.refl _ _).drew).map HFX.out (by unfold maxLen; omega) (i := l.length) (by omega)
    unfold Nd.val at hrun
    simp only at hrun
    have hgd : W2.grownBy w3 (some m) := ⟨hg3.os, hg3.tape, hg3.output, hg3.size, hg3.block⟩
    have HM3 := Lib.hid hm3
    have HG3 := Lib.hid hgd
    clear hm3 hg3 hgd
    have c0 := HP2.out.ps.c0
    have c1 := HP2.out.c1
    obtain ⟨e0, e1, e2, e3, e4⟩ := HX2.out.five
    simp only at e0 e1 e2 e3 e4
    go_region
    clear e0 e1 e2 e3 e4 c0 c1 hrun
    have hpm : p ≠ m := fun e => HP2.out.nm e.symm
    have HPS3 : Hid (PS base p (.slice A l.length c) l w3) := by
      have h := HP2.out.ps
      exact ⟨HG3.out.cell h.c0 (by simpa using hpm), (World.frozen?_of_block (a := ⟨p, 0, none⟩) (HG3.out.block p h.lt (by simpa using hpm))).trans h.f0, World.ownsRow.kept h.own HG3.out (.inr HP2.out.nr), h.hb, Nat.lt_of_lt_of_le h.lt HG3.out.size, h.ne⟩
    have HC1 : Hid (w3.cell? ⟨p, 1, none⟩ = some (.map (some m))) := HG3.out.cell HP2.out.c1 (by simpa using hpm)
    have hmw : m < w.heap.size := HML.out
    have HX3 : Hid (NdAt w3 w.heap.size 0 ⟨xt, xa, xb, xc, xd⟩) := HX2.out.keep (HG3.out.block _ hz2' (by simp; omega))
    have HPG3 : Hid (PG p m (.slice A l.length c) (.slice A l.length c) w w3) := (PG.below HB2.out).trans ⟨HG3.out.os, HG3.out.tape, HG3.out.output, HG3.out.size, fun k hk _ h2 _ => HG3.out.block k hk (by simpa using h2), fun _ _ h => h⟩
    have hz3 : w.heap.size < w3.heap.size := Nat.lt_of_lt_of_le hz2' HG3.out.size
    have hmN := HP2.out.nr
    have HNR := Lib.hid hmN
    have HHM := Lib.hid HP2.out.hm
    clear hmN HP2 HX2 HB2 HG3
    have c0 := HPS3.out.c0
    have f0 := HPS3.out.f0
    obtain ⟨e0, e1, e2, e3, e4⟩ := HX3.out.five
    simp only at e0 e1 e2 e3 e4
    have hba : Below w3.heap.size w3 (w3.alloc (.cells #[.int .i64 xt, .int .i64 xa, .int .i64 xb, .int .i64 xc, .int .i64 xd] 84)) := (Below.refl _ _).alloc (Nat.le_refl _) _
    have HPA := Lib.hid (HPS3.out.below hba.drew)
    have HNA : Hid (NdAt (w3.alloc (.cells #[.int .i64 xt, .int .i64 xa, .int .i64 xb, .int .i64 xc, .int .i64 xd] 84)).drew w3.heap.size 0 ⟨xt, xa, xb, xc, xd⟩) := NdAt.mk (by simp [go_sem]) (by simp [go_sem]) (by simp [go_sem]) (by simp [go_sem]) (by simp [go_sem])
    have HBA := Lib.hid hba.drew
    have hbl : base ≤ (w3.alloc (.cells #[.int .i64 xt, .int .i64 xa, .int .i64 xb, .int .i64 xc, .int .i64 xd] 84)).drew.heap.size := Nat.le_trans HPS3.out.hb (Nat.le_of_lt HPA.out.lt)
    have hp3 := HPS3.out.lt
    have hpw : ¬ p = w3.heap.size := by omega
    have hpx : ¬ p = w.heap.size := by omega
    clear hba
    go_wp2_with fail
    go_region_law ((refine step_append_node hi hz0 hz1 hz2 (by rfl) _ _ (by rfl) base _ l ⟨xt, xa, xb, xc, xd⟩ _ w3.heap.size HPA.out.own (by rfl) (by rfl) HNA.out (by omega) hbl ?_; intro g cap w4 hown4 hg4 hlies; have c2 := hg4.cell HPA.out.c0 (fun e => HPA.out.ne e.symm); have f2 := (World.frozen?_of_block (a := ⟨p, 0, none⟩) (hg4.block p HPA.out.lt (fun e => HPA.out.ne e.symm))).trans HPA.out.f0))
    all_goals
      have HW4 := Lib.hid hown4
      have HG4 := Lib.hid hg4
      have HL4 := Lib.hid hlies
      clear hown4 hg4 hlies
      go_wp2
      go_ret
      have HPU := HPA.out.push (m := m) HW4.out HG4.out HL4.out
      have hmA : m < (w3.alloc (.cells #[.int .i64 xt, .int .i64 xa, .int .i64 xb, .int .i64 xc, .int .i64 xd] 84)).drew.heap.size := Nat.lt_of_lt_of_le HM3.out.lt HBA.out.size
      have hmr : some m ≠ (Value.slice A l.length c).ownBlock := fun e => HNR.out e.symm
      refine ⟨rfl, .slice (some ⟨g, 0, none⟩) (l.length + 1) cap, ⟨HPU.1, ?_, ?_, HHM.out, fun e => hpm e.symm, ?_⟩, HPG3.out.trans ((PG.below HBA.out).trans HPU.2)⟩
      · have h1 := (HBA.out.cell (p := ⟨p, 1, none⟩) HPS3.out.lt).trans HC1.out
        exact (World.cell?_setCell_other _ _ _ _ (by simp)).trans (HG4.out.cell h1 (fun e => HPA.out.ne e.symm))
      · refine MapI.fits ?_ (fun z => (find_snoc HFI.out z).symm)
        have h1 := HM3.out.keep ((heap_setCell_other w4 ⟨p, 0, none⟩ m (.slice (some ⟨g, 0, none⟩) (l.length + 1) cap) (fun e => hpm e.symm)).trans ((HG4.out.block m hmA hmr).trans (HBA.out.block m HM3.out.lt)))
        simpa using h1
      · rcases HL4.out with h1 | h1
        · intro e; exact HNR.out (by rw [h1]; simpa [Value.ownBlock] using e)
        · intro e; simp [Value.ownBlock] at e; omega
end Go.Proofs.YtoobkajilbmdhaaDoor

namespace Go.Proofs.YtoobkajilbmdhaaDoor
open Go.RowKit
set_option linter.unusedVariables false

set_option maxHeartbeats 400000 in
theorem pSplitOf_any (a b c d : Int) (w : World) :
    Calls Tryd.prog 92 #[.agg #[.int .i64 a, .int .i64 b, .int .i64 c, .int .i64 d]] w fun e w' => e = .returned (.agg #[.int .i64 (-1), .int .i64 a, .int .i64 b, .int .i64 c, .int .i64 d]) ∧ Below w.heap.size w w' := by
  go_enter Tryd.func92, Tryd.ntmps92
  go_wp2
  refine bodyPost_ret (v := .agg #[.int .i64 (-1), .int .i64 a, .int .i64 b, .int .i64 c, .int .i64 d]) (by simp [results, Tryd.results92, go_sem]) rfl ⟨rfl, ((Below.refl _ _).alloc (Nat.le_refl _) _).alloc (by simp) _⟩

/-- The closure's captured boxes: the shelf's pointer, the map, the closure itself. -/
structure CB (base p m : Nat) (v : Value) (bs bg bf : Nat) (A : Option Addr) (cg sn : Nat) (tiles : List Int) (w : World) : Prop where
  s0 : w.cell? ⟨bs, 0, none⟩ = some (.pointer (some ⟨p, 0, none⟩))
  g0 : w.cell? ⟨bg, 0, none⟩ = some (.int .i64 sn)
  g1 : w.cell? ⟨bg, 1, none⟩ = some (.slice A tiles.length cg)
  k0 : w.cell? ⟨bf, 0, none⟩ = some (.func (Fn.func 88) #[] #[.pointer (some ⟨bs, 0, none⟩), .pointer (some ⟨bg, 0, none⟩), .pointer (some ⟨bf, 0, none⟩)])
  ri : RI w base A tiles
  hs : bs < w.heap.size ∧ bs ≠ p ∧ bs ≠ m ∧ v.ownBlock ≠ some bs
  hg : bg < w.heap.size ∧ bg ≠ p ∧ bg ≠ m ∧ v.ownBlock ≠ some bg
  hf : bf < w.heap.size ∧ bf ≠ p ∧ bf ≠ m ∧ v.ownBlock ≠ some bf
theorem CB.step {base p m : Nat} {v v' : Value} {bs bg bf : Nat} {A : Option Addr} {cg sn : Nat} {tiles : List Int} {w w' : World} (h : CB base p m v bs bg bf A cg sn tiles w) (hp : PG p m v v' w w') (hb : Below base w w') : CB base p m v' bs bg bf A cg sn tiles w' :=
  have st : ∀ k, (k < w.heap.size ∧ k ≠ p ∧ k ≠ m ∧ v.ownBlock ≠ some k) → k < w'.heap.size ∧ k ≠ p ∧ k ≠ m ∧ v'.ownBlock ≠ some k := fun k hk => ⟨Nat.lt_of_lt_of_le hk.1 hp.size, hk.2.1, hk.2.2.1, hp.row k hk.1 hk.2.2.2⟩
  ⟨(hp.cell (a := ⟨bs, 0, none⟩) h.hs.1 h.hs.2.1 h.hs.2.2.1 h.hs.2.2.2).trans h.s0, (hp.cell (a := ⟨bg, 0, none⟩) h.hg.1 h.hg.2.1 h.hg.2.2.1 h.hg.2.2.2).trans h.g0, (hp.cell (a := ⟨bg, 1, none⟩) h.hg.1 h.hg.2.1 h.hg.2.2.1 h.hg.2.2.2).trans h.g1, (hp.cell (a := ⟨bf, 0, none⟩) h.hf.1 h.hf.2.1 h.hf.2.2.1 h.hf.2.2.2).trans h.k0, h.ri.below hb, st bs h.hs, st bg h.hg, st bf h.hf⟩
theorem SS.base {base p m : Nat} {v v' : Value} {l : List Nd} {w w' : World} (h : SS base p m v l w) (hp : PG p m v v' w w') : Below base w w' :=
  hp.base (Nat.le_trans h.ps.hb (Nat.le_of_lt h.ps.lt)) h.ps.hb h.hm (fun k hk => (h.ps.own.lt k hk).1)
theorem CB.below {base p m : Nat} {v : Value} {bs bg bf : Nat} {A : Option Addr} {cg sn : Nat} {tiles : List Int} {w w' : World} (h : CB base p m v bs bg bf A cg sn tiles w) (hb : Below w.heap.size w w') (hbb : base ≤ w.heap.size) : CB base p m v bs bg bf A cg sn tiles w' := h.step (PG.below hb) (hb.mono hbb)
theorem fits_small {n : Nd} (h0 : -1 ≤ n.tile ∧ n.tile ≤ 1000000) (h1 : 0 ≤ n.a ∧ n.a ≤ 1000000) (h2 : 0 ≤ n.b ∧ n.b ≤ 1000000) (h3 : 0 ≤ n.c ∧ n.c ≤ 1000000) (h4 : 0 ≤ n.d ∧ n.d ≤ 1000000) : n.Fits := by
  simp [Nd.Fits, Lit.wf, IntKind.min, IntKind.max, IntKind.bits, IntKind.signed]
  omega

theorem wrap_sum {q x : Nat} (h : q + x < 64) : wrap64 ((q : Int) + (x : Int)) = ((q + x : Nat) : Int) := by rw [wrap64_in (by omega) (by omega)]; omega
theorem wrap_sum' {q x : Nat} (h : q + x < 64) : IntKind.i64.wrap ((q : Int) + (x : Int)) = ((q + x : Nat) : Int) := by rw [IntWalk.i64_in _ (by omega)]; omega
theorem wrap_mul' {J sn q x : Nat} (h : J * sn = q) (k : q + x < 64) : IntKind.i64.wrap ((J : Int) * (sn : Int)) = (q : Int) := by
  have e : (J : Int) * (sn : Int) = (q : Int) := by rw [← h]; simp
  rw [e]
  exact IntWalk.i64_in _ (by omega)
theorem cast_nn (k : Nat) : (0 : Int) ≤ (k : Int) := by omega
theorem cast_lt {a b : Nat} (h : a < b) : (a : Int) < (b : Int) := by omega
theorem lt_le8 {a b : Nat} (h : a < b) (k : b ≤ 8) : (a : Int) < 8 := by omega
theorem le_of_cnt0 {n : Nat} (h : n + cnt 0 ≤ 100000) : n ≤ 100000 := by simp only [cnt] at h; omega
theorem leaf_fits {t : Int} (h : 0 ≤ t ∧ t ≤ 9) : (leafOfT t).Fits := fits_small (by simp only [leafOfT]; omega) (by simp [leafOfT]) (by simp [leafOfT]) (by simp [leafOfT]) (by simp [leafOfT])
/-- What a call of the closure at size 2^d does. -/
def SqDoes (sn : Nat) (tiles : List Int) (d : Nat) : Prop := ∀ (base p m bs bg bf x y cg : Nat) (v : Value) (l : List Nd) (A : Option Addr) (w : World), x + 2 ^ d ≤ sn → y + 2 ^ d ≤ sn → SS base p m v l w → CB base p m v bs bg bf A cg sn tiles w → l.length + cnt d ≤ 100000 →
    Calls Tryd.prog 88 #[.int .i64 x, .int .i64 y, .int .i64 ((2 ^ d : Nat) : Int), .pointer (some ⟨bs, 0, none⟩), .pointer (some ⟨bg, 0, none⟩), .pointer (some ⟨bf, 0, none⟩)] w fun e w' => e = .returned (.int .i64 (msq (tileF sn tiles) d x y l).2) ∧ ∃ v', SS base p m v' (msq (tileF sn tiles) d x y l).1 w' ∧ PG p m v v' w w'

set_option maxRecDepth 100000 in
set_option maxHeartbeats 400000 in
theorem pSq_zero (sn : Nat) (tiles : List Int) (hs8 : sn ≤ 8) (htl : tiles.length = sn * sn) (htt : ∀ t ∈ tiles, 0 ≤ t ∧ t ≤ 9) : SqDoes sn tiles 0 := by
  intro base p m bs bg bf x y cg v l A w hx hy hss hcb hlen
  have hx1 : x < sn := by have h : x + 1 ≤ sn := by simpa using hx
                          exact h
  have hy1 : y < sn := by have h : y + 1 ≤ sn := by simpa using hy
                          exact h
  obtain ⟨q, hq0, hq1, hq2, hq3⟩ := place_sq (tiles := tiles) hs8 htl hy1 hx1
  have hws : wrap64 ((q : Int) + (x : Int)) = ((q + x : Nat) : Int) := wrap_sum hq2
  have hws' : IntKind.i64.wrap ((q : Int) + (x : Int)) = ((q + x : Nat) : Int) := wrap_sum' hq2
  have hq3' := wrap_mul' hq0 hq2
  have HT : Hid (tileF sn tiles x y = tiles[q + x]) := by show _ = _; subst hq0; exact tileF_at hq1
  generalize hqx : q + x = k at *
  clear hqx
  have k0 : (0 : Int) ≤ (k : Int) := cast_nn k
  have k1 : (k : Int) < (tiles.length : Int) := cast_lt hq1
  have htr := htt _ (List.getElem_mem hq1)
  rw [← HT.out] at htr
  have HS := Lib.hid hss
  have HC := Lib.hid hcb
  obtain ⟨bt, off, rfl, hbt, hct⟩ := (hcb.ri).at_ hq1
  rw [← HT.out] at hct
  have HA : Hid (msq (tileF sn tiles) 0 x y l = addN l (leafOfT (tileF sn tiles x y))) := rfl
  have HLN : Hid (l.length ≤ 100000) := le_of_cnt0 hlen
  rw [HA.out]
  clear HT hq0 hq1 hq2 htl hx hy hlen
  generalize tileF sn tiles x y = t at *
  have HF : Hid (leafOfT t).Fits := leaf_fits htr
  have hLf := pLeafOf_any t
  have x8 : (x : Int) < 8 := lt_le8 hx1 hs8
  have y8 : (y : Int) < 8 := lt_le8 hy1 hs8
  have hbb : base ≤ w.heap.size := Nat.le_trans hss.ps.hb (Nat.le_of_lt hss.ps.lt)
  have hk : w.drew.cell? ⟨bs, 0, none⟩ = some (.pointer (some ⟨p, 0, none⟩)) ∧ w.drew.cell? ⟨bg, 0, none⟩ = some (.int .i64 sn) ∧ w.drew.cell? ⟨bg, 1, none⟩ = some (.slice (some ⟨bt, off, none⟩) tiles.length cg) ∧ w.drew.cell? ⟨bt, off + k, none⟩ = some (.int .i64 t) := ⟨hcb.s0, hcb.g0, hcb.g1, hct⟩
  have hbtw : bt < w.heap.size := Nat.lt_of_lt_of_le hbt hbb
  have HK := Lib.hid hk
  have HBT := Lib.hid hbt
  clear hss hcb hct
  clear htt hx1 hy1 htr hbt
  go_enter Tryd.func88, Tryd.ntmps88
  go_wp2_with fail
  go_region_held3 (fun w' => w'.cell? ⟨bs, 0, none⟩ = some (.pointer (some ⟨p, 0, none⟩)) ∧ w'.cell? ⟨bg, 0, none⟩ = some (.int .i64 sn) ∧ w'.cell? ⟨bg, 1, none⟩ = some (.slice (some ⟨bt, off, none⟩) tiles.length cg) ∧ w'.cell? ⟨bt, off + k, none⟩ = some (.int .i64 t))
    (first
      | go_keep
      | exact hk)
    (first
      | (go_at_call 90; refine (hLf w.drew).mono ?_; rintro e w1 ⟨rfl, hb1⟩; have HS1 := Lib.hid (HS.out.below ((Below.refl _ _).drew.trans hb1)); have HB1 := Lib.hid ((Below.refl w.heap.size w).drew.trans hb1); have HC1 := Lib.hid (HC.out.below HB1.out hbb); clear hk; have hk := And.intro HC1.out.s0 (And.intro HC1.out.g0 (And.intro HC1.out.g1 ((hb1.cell (p := ⟨bt, off + k, none⟩) hbtw).trans HK.out.2.2.2))); clear hb1)
      | (go_at_call 89; refine (pKeep_any base p m v l (leafOfT t) w1 HS1.out HF.out HLN.out).mono ?_; rintro e w2 ⟨rfl, v2, hs2, hg2⟩; have HS2 := Lib.hid hs2; have HG2 := Lib.hid ((PG.below HB1.out).trans hg2); have HC2 := Lib.hid (HC1.out.step hg2 (HS1.out.base hg2)); clear hk; have hk := And.intro HC2.out.s0 (And.intro HC2.out.g0 (And.intro HC2.out.g1 (((HS1.out.base hg2).cell (p := ⟨bt, off + k, none⟩) HBT.out).trans (((HB1.out.mono hbb).cell (p := ⟨bt, off + k, none⟩) HBT.out).trans HK.out.2.2.2)))); clear hs2 hg2))
  go_wp2_with fail
  go_ret
  exact ⟨rfl, v2, HS2.out, HG2.out⟩
end Go.Proofs.YtoobkajilbmdhaaDoor

namespace Go.Proofs.YtoobkajilbmdhaaDoor
open Go.RowKit
set_option linter.unusedVariables false

theorem SS.by_ {base p m q : Nat} {v : Value} {l : List Nd} {w w' : World} (h : SS base p m v l w) (hg : w.grownBy w' (some q)) (h1 : q ≠ p) (h2 : q ≠ m) (h3 : v.ownBlock ≠ some q) : SS base p m v l w' :=
  have hp : some p ≠ some q := fun e => h1 (by simpa using e.symm)
  have hm : some m ≠ some q := fun e => h2 (by simpa using e.symm)
  ⟨⟨hg.cell h.ps.c0 hp, (World.frozen?_of_block (a := ⟨p, 0, none⟩) (hg.block p h.ps.lt hp)).trans h.ps.f0, World.ownsRow.kept h.ps.own hg (.inr h3), h.ps.hb, Nat.lt_of_lt_of_le h.ps.lt hg.size, h.ps.ne⟩, hg.cell h.c1 hp, h.map.keep (hg.block m h.map.lt hm), h.hm, h.nm, h.nr⟩
theorem CB.by_ {base p m q : Nat} {v : Value} {bs bg bf : Nat} {A : Option Addr} {cg sn : Nat} {tiles : List Int} {w w' : World} (h : CB base p m v bs bg bf A cg sn tiles w) (hg : w.grownBy w' (some q)) (h1 : bs ≠ q) (h2 : bg ≠ q) (h3 : bf ≠ q) (h4 : base ≤ q) (h5 : base ≤ w.heap.size) : CB base p m v bs bg bf A cg sn tiles w' :=
  ⟨hg.cell h.s0 (by simpa using h1), hg.cell h.g0 (by simpa using h2), hg.cell h.g1 (by simpa using h2), hg.cell h.k0 (by simpa using h3), h.ri.keep fun k hk => hg.block k (by omega) (by simp; omega), ⟨Nat.lt_of_lt_of_le h.hs.1 hg.size, h.hs.2⟩, ⟨Nat.lt_of_lt_of_le h.hg.1 hg.size, h.hg.2⟩, ⟨Nat.lt_of_lt_of_le h.hf.1 hg.size, h.hf.2⟩⟩
theorem PG.by_ {p m q : Nat} {v v' : Value} {w0 w w' : World} (h : PG p m v v' w0 w) (hg : w.grownBy w' (some q)) (hq : w0.heap.size ≤ q) : PG p m v v' w0 w' :=
  ⟨hg.os.trans h.os, hg.tape.trans h.tape, hg.output.trans h.output, Nat.le_trans h.size hg.size, fun k hk h1 h2 h3 => (hg.block k (Nat.lt_of_lt_of_le hk h.size) (by simp; omega)).trans (h.block k hk h1 h2 h3), h.row⟩
/-- Four numbers in their box. -/
structure Q4 (w : World) (b : Nat) (a0 a1 a2 a3 : Int) : Prop where
  c0 : w.cell? ⟨b, 0, none⟩ = some (.int .i64 a0)
  c1 : w.cell? ⟨b, 1, none⟩ = some (.int .i64 a1)
  c2 : w.cell? ⟨b, 2, none⟩ = some (.int .i64 a2)
  c3 : w.cell? ⟨b, 3, none⟩ = some (.int .i64 a3)
  fz : ∀ j, w.frozen? ⟨b, j, none⟩ = false
theorem Q4.keep {w w' : World} {b : Nat} {a0 a1 a2 a3 : Int} (h : Q4 w b a0 a1 a2 a3) (hb : w'.heap[b]? = w.heap[b]?) : Q4 w' b a0 a1 a2 a3 :=
  ⟨(World.cell?_of_block (a := ⟨b, 0, none⟩) hb).trans h.c0, (World.cell?_of_block (a := ⟨b, 1, none⟩) hb).trans h.c1, (World.cell?_of_block (a := ⟨b, 2, none⟩) hb).trans h.c2, (World.cell?_of_block (a := ⟨b, 3, none⟩) hb).trans h.c3, fun j => (World.frozen?_of_block (a := ⟨b, j, none⟩) hb).trans (h.fz j)⟩
theorem Q4.set0 {w : World} {b : Nat} {a0 a1 a2 a3 : Int} (h : Q4 w b a0 a1 a2 a3) (r : Int) : Q4 (w.setCell ⟨b, 0, none⟩ (.int .i64 r)) b r a1 a2 a3 :=
  ⟨World.cell?_setCell_same _ _ _ h.c0, (World.cell?_setCell_other _ _ _ _ (by simp)).trans h.c1, (World.cell?_setCell_other _ _ _ _ (by simp)).trans h.c2, (World.cell?_setCell_other _ _ _ _ (by simp)).trans h.c3, fun j => by simpa using h.fz j⟩
theorem Q4.set1 {w : World} {b : Nat} {a0 a1 a2 a3 : Int} (h : Q4 w b a0 a1 a2 a3) (r : Int) : Q4 (w.setCell ⟨b, 1, none⟩ (.int .i64 r)) b a0 r a2 a3 :=
  ⟨(World.cell?_setCell_other _ _ _ _ (by simp)).trans h.c0, World.cell?_setCell_same _ _ _ h.c1, (World.cell?_setCell_other _ _ _ _ (by simp)).trans h.c2, (World.cell?_setCell_other _ _ _ _ (by simp)).trans h.c3, fun j => by simpa using h.fz j⟩
theorem Q4.set2 {w : World} {b : Nat} {a0 a1 a2 a3 : Int} (h : Q4 w b a0 a1 a2 a3) (r : Int) : Q4 (w.setCell ⟨b, 2, none⟩ (.int .i64 r)) b a0 a1 r a3 :=
  ⟨(World.cell?_setCell_other _ _ _ _ (by simp)).trans h.c0, (World.cell?_setCell_other _ _ _ _ (by simp)).trans h.c1, World.cell?_setCell_same _ _ _ h.c2, (World.cell?_setCell_other _ _ _ _ (by simp)).trans h.c3, fun j => by simpa using h.fz j⟩
theorem Q4.set3 {w : World} {b : Nat} {a0 a1 a2 a3 : Int} (h : Q4 w b a0 a1 a2 a3) (r : Int) : Q4 (w.setCell ⟨b, 3, none⟩ (.int .i64 r)) b a0 a1 a2 r :=
  ⟨(World.cell?_setCell_other _ _ _ _ (by simp)).trans h.c0, (World.cell?_setCell_other _ _ _ _ (by simp)).trans h.c1, (World.cell?_setCell_other _ _ _ _ (by simp)).trans h.c2, World.cell?_setCell_same _ _ _ h.c3, fun j => by simpa using h.fz j⟩

def lsF (l0 l1 l2 l3 l4 : List Nd) : Nat → List Nd
  | 0 => l0
  | 1 => l1
  | 2 => l2
  | 3 => l3
  | _ => l4
def rsF (r0 r1 r2 r3 : Nat) : Nat → Int × Int × Int × Int
  | 0 => (0, 0, 0, 0)
  | 1 => (r0, 0, 0, 0)
  | 2 => (r0, r1, 0, 0)
  | 3 => (r0, r1, r2, 0)
  | _ => (r0, r1, r2, r3)
/-- The state of the closure's loop behind i rounds. -/
structure LQ (w : World) (base p m : Nat) (v : Value) (bs bg bf : Nat) (A : Option Addr) (cg sn : Nat) (tiles : List Int) (v' : Value) (l : List Nd) (q : Int × Int × Int × Int) (wr : World) : Prop where
  ss : SS base p m v' l wr
  cb : CB base p m v' bs bg bf A cg sn tiles wr
  pg : PG p m v v' w wr
  nq : v'.ownBlock ≠ some w.heap.size
  q4 : Q4 wr w.heap.size q.1 q.2.1 q.2.2.1 q.2.2.2
  lt : w.heap.size < wr.heap.size
theorem LQ.call {w : World} {base p m : Nat} {v : Value} {bs bg bf : Nat} {A : Option Addr} {cg sn : Nat} {tiles : List Int} {v' v2 : Value} {l l2 : List Nd} {q : Int × Int × Int × Int} {wr w2 : World} (h : LQ w base p m v bs bg bf A cg sn tiles v' l q wr) (hs : SS base p m v2 l2 w2) (hg : PG p m v' v2 wr w2) (hp : p < w.heap.size) (hm : m < w.heap.size) : LQ w base p m v bs bg bf A cg sn tiles v2 l2 q w2 :=
  ⟨hs, h.cb.step hg (h.ss.base hg), h.pg.trans hg, hg.row _ h.lt h.nq, h.q4.keep (hg.block _ h.lt (by omega) (by omega) h.nq), Nat.lt_of_lt_of_le h.lt hg.size⟩
theorem LQ.store {w : World} {base p m : Nat} {v : Value} {bs bg bf : Nat} {A : Option Addr} {cg sn : Nat} {tiles : List Int} {v' : Value} {l : List Nd} {q q' : Int × Int × Int × Int} {wr : World} (h : LQ w base p m v bs bg bf A cg sn tiles v' l q wr) (j : Nat) (r : Int) (hq : Q4 (wr.setCell ⟨w.heap.size, j, none⟩ (.int .i64 r)) w.heap.size q'.1 q'.2.1 q'.2.2.1 q'.2.2.2) (hp : p < w.heap.size) (hm : m < w.heap.size) (hs : bs < w.heap.size) (hgg : bg < w.heap.size) (hf : bf < w.heap.size) (hb : base ≤ w.heap.size) : LQ w base p m v bs bg bf A cg sn tiles v' l q' (wr.setCell ⟨w.heap.size, j, none⟩ (.int .i64 r)) :=
  have hg := grown_set wr ⟨w.heap.size, j, none⟩ (.int .i64 r)
  ⟨h.ss.by_ hg (show w.heap.size ≠ p by omega) (show w.heap.size ≠ m by omega) h.nq, h.cb.by_ hg (show bs ≠ w.heap.size by omega) (show bg ≠ w.heap.size by omega) (show bf ≠ w.heap.size by omega) hb (Nat.le_trans hb (Nat.le_of_lt h.lt)), h.pg.by_ hg (Nat.le_refl _), h.nq, hq, by have := h.lt; simp; omega⟩
theorem LQ.below {w : World} {base p m : Nat} {v : Value} {bs bg bf : Nat} {A : Option Addr} {cg sn : Nat} {tiles : List Int} {v' : Value} {l : List Nd} {q : Int × Int × Int × Int} {wr w2 : World} (h : LQ w base p m v bs bg bf A cg sn tiles v' l q wr) (hb : Below wr.heap.size wr w2) (hp : p < w.heap.size) (hm : m < w.heap.size) : LQ w base p m v bs bg bf A cg sn tiles v' l q w2 := h.call (h.ss.below hb) (PG.below hb) hp hm
end Go.Proofs.YtoobkajilbmdhaaDoor

namespace Go.Proofs.YtoobkajilbmdhaaDoor
open Go.RowKit
set_option linter.unusedVariables false

def RelQ (w : World) (base p m : Nat) (v : Value) (bs bg bf : Nat) (A : Option Addr) (cg sn : Nat) (tiles : List Int) (l0 l1 l2 l3 l4 : List Nd) (r0 r1 r2 r3 : Nat) (idx : Value) (wr : World) : Prop :=
  ∃ (i : Nat) (v1 : Value), idx = .int .i64 i ∧ i ≤ 4 ∧ LQ w base p m v bs bg bf A cg sn tiles v1 (lsF l0 l1 l2 l3 l4 i) (rsF r0 r1 r2 r3 i) wr
def resQ (L3 : List Nd) (R0 R1 R2 R3 : Nat) : List Nd × Nat := if oneL L3 R0 R1 R2 R3 then (L3, R0) else addN L3 ⟨-1, R0, R1, R2, R3⟩
theorem split_fits {a b c d : Nat} (h : a < 100000 ∧ b < 100000 ∧ c < 100000 ∧ d < 100000) : (⟨-1, a, b, c, d⟩ : Nd).Fits := fits_small (by simp) (by simp; omega) (by simp; omega) (by simp; omega) (by simp; omega)

theorem LQ.hk1 {w : World} {base p m : Nat} {v : Value} {bs bg bf : Nat} {A : Option Addr} {cg sn : Nat} {tiles : List Int} {A1 : Option Addr} {c1 n1 : Nat} {l : List Nd} {R0 R1 R2 R3 : Int} {wr : World} (h : LQ w base p m v bs bg bf A cg sn tiles (.slice A1 n1 c1) l (R0, R1, R2, R3) wr) : wr.drew.cell? ⟨bs, 0, none⟩ = some (.pointer (some ⟨p, 0, none⟩)) ∧ wr.drew.cell? ⟨p, 0, none⟩ = some (.slice A1 n1 c1) ∧ wr.drew.cell? ⟨w.heap.size, 0, none⟩ = some (.int .i64 R0) ∧ wr.drew.cell? ⟨w.heap.size, 1, none⟩ = some (.int .i64 R1) ∧ wr.drew.cell? ⟨w.heap.size, 2, none⟩ = some (.int .i64 R2) ∧ wr.drew.cell? ⟨w.heap.size, 3, none⟩ = some (.int .i64 R3) := ⟨h.cb.s0, h.ss.ps.c0, h.q4.c0, h.q4.c1, h.q4.c2, h.q4.c3⟩
theorem LQ.hk2 {w : World} {base p m : Nat} {v : Value} {bs bg bf : Nat} {A : Option Addr} {cg sn : Nat} {tiles : List Int} {A1 : Option Addr} {c1 n1 : Nat} {l : List Nd} {R0 R1 R2 R3 : Int} {wr : World} (h : LQ w base p m v bs bg bf A cg sn tiles (.slice A1 n1 c1) l (R0, R1, R2, R3) wr) : wr.cell? ⟨bs, 0, none⟩ = some (.pointer (some ⟨p, 0, none⟩)) ∧ wr.cell? ⟨p, 0, none⟩ = some (.slice A1 n1 c1) ∧ wr.cell? ⟨w.heap.size, 0, none⟩ = some (.int .i64 R0) ∧ wr.cell? ⟨w.heap.size, 1, none⟩ = some (.int .i64 R1) ∧ wr.cell? ⟨w.heap.size, 2, none⟩ = some (.int .i64 R2) ∧ wr.cell? ⟨w.heap.size, 3, none⟩ = some (.int .i64 R3) := ⟨h.cb.s0, h.ss.ps.c0, h.q4.c0, h.q4.c1, h.q4.c2, h.q4.c3⟩
theorem LQ.hk3 {w : World} {base p m : Nat} {v v' : Value} {bs bg bf : Nat} {A : Option Addr} {cg sn : Nat} {tiles : List Int} {l : List Nd} {R0 R1 R2 R3 : Int} {wr : World} (h : LQ w base p m v bs bg bf A cg sn tiles v' l (R0, R1, R2, R3) wr) : wr.drew.cell? ⟨bs, 0, none⟩ = some (.pointer (some ⟨p, 0, none⟩)) ∧ wr.drew.cell? ⟨w.heap.size, 0, none⟩ = some (.int .i64 R0) ∧ wr.drew.cell? ⟨w.heap.size, 1, none⟩ = some (.int .i64 R1) ∧ wr.drew.cell? ⟨w.heap.size, 2, none⟩ = some (.int .i64 R2) ∧ wr.drew.cell? ⟨w.heap.size, 3, none⟩ = some (.int .i64 R3) := ⟨h.cb.s0, h.q4.c0, h.q4.c1, h.q4.c2, h.q4.c3⟩
theorem LQ.hk4 {w : World} {base p m : Nat} {v v' : Value} {bs bg bf : Nat} {A : Option Addr} {cg sn : Nat} {tiles : List Int} {l : List Nd} {R0 R1 R2 R3 : Int} {wr : World} (h : LQ w base p m v bs bg bf A cg sn tiles v' l (R0, R1, R2, R3) wr) : wr.cell? ⟨bs, 0, none⟩ = some (.pointer (some ⟨p, 0, none⟩)) ∧ wr.cell? ⟨w.heap.size, 0, none⟩ = some (.int .i64 R0) ∧ wr.cell? ⟨w.heap.size, 1, none⟩ = some (.int .i64 R1) ∧ wr.cell? ⟨w.heap.size, 2, none⟩ = some (.int .i64 R2) ∧ wr.cell? ⟨w.heap.size, 3, none⟩ = some (.int .i64 R3) := ⟨h.cb.s0, h.q4.c0, h.q4.c1, h.q4.c2, h.q4.c3⟩

set_option maxRecDepth 100000 in
set_option maxHeartbeats 1000000 in
theorem pSq_body (sn : Nat) (tiles : List Int) (n h : Nat) (hn : n = 2 * h) (h1 : 1 ≤ h) (base p m bs bg bf x y cg : Nat) (v : Value) (l L0 L1 L2 L3 : List Nd) (R0 R1 R2 R3 : Nat) (A : Option Addr) (w : World)
    (hx : x + n ≤ 8) (hy : y + n ≤ 8) (hss : SS base p m v l w) (hcb : CB base p m v bs bg bf A cg sn tiles w) (hL3 : L3.length ≤ 100000) (hR : R0 < L3.length) (hRR : R0 < 100000 ∧ R1 < 100000 ∧ R2 < 100000 ∧ R3 < 100000)
    (hk0 : ∀ (v' : Value) (w' : World), SS base p m v' l w' → CB base p m v' bs bg bf A cg sn tiles w' → Calls Tryd.prog 88 #[.int .i64 (x : Int), .int .i64 (y : Int), .int .i64 h, .pointer (some ⟨bs, 0, none⟩), .pointer (some ⟨bg, 0, none⟩), .pointer (some ⟨bf, 0, none⟩)] w' fun e w'' => e = .returned (.int .i64 R0) ∧ ∃ v'', SS base p m v'' L0 w'' ∧ PG p m v' v'' w' w'')
    (hk1 : ∀ (v' : Value) (w' : World), SS base p m v' L0 w' → CB base p m v' bs bg bf A cg sn tiles w' → Calls Tryd.prog 88 #[.int .i64 ((x : Int) + (h : Int)), .int .i64 (y : Int), .int .i64 h, .pointer (some ⟨bs, 0, none⟩), .pointer (some ⟨bg, 0, none⟩), .pointer (some ⟨bf, 0, none⟩)] w' fun e w'' => e = .returned (.int .i64 R1) ∧ ∃ v'', SS base p m v'' L1 w'' ∧ PG p m v' v'' w' w'')
    (hk2 : ∀ (v' : Value) (w' : World), SS base p m v' L1 w' → CB base p m v' bs bg bf A cg sn tiles w' → Calls Tryd.prog 88 #[.int .i64 (x : Int), .int .i64 ((y : Int) + (h : Int)), .int .i64 h, .pointer (some ⟨bs, 0, none⟩), .pointer (some ⟨bg, 0, none⟩), .pointer (some ⟨bf, 0, none⟩)] w' fun e w'' => e = .returned (.int .i64 R2) ∧ ∃ v'', SS base p m v'' L2 w'' ∧ PG p m v' v'' w' w'')
    (hk3 : ∀ (v' : Value) (w' : World), SS base p m v' L2 w' → CB base p m v' bs bg bf A cg sn tiles w' → Calls Tryd.prog 88 #[.int .i64 ((x : Int) + (h : Int)), .int .i64 ((y : Int) + (h : Int)), .int .i64 h, .pointer (some ⟨bs, 0, none⟩), .pointer (some ⟨bg, 0, none⟩), .pointer (some ⟨bf, 0, none⟩)] w' fun e w'' => e = .returned (.int .i64 R3) ∧ ∃ v'', SS base p m v'' L3 w'' ∧ PG p m v' v'' w' w'') :
    Calls Tryd.prog 88 #[.int .i64 x, .int .i64 y, .int .i64 n, .pointer (some ⟨bs, 0, none⟩), .pointer (some ⟨bg, 0, none⟩), .pointer (some ⟨bf, 0, none⟩)] w fun e w' => e = .returned (.int .i64 (resQ L3 R0 R1 R2 R3).2) ∧ ∃ v', SS base p m v' (resQ L3 R0 R1 R2 R3).1 w' ∧ PG p m v v' w w' := by
  have hp := hss.ps.lt
  have hm := hss.map.lt
  have hbs := hcb.hs.1
  have hbg := hcb.hg.1
  have hbf := hcb.hf.1
  have hbb : base ≤ w.heap.size := Nat.le_trans hss.ps.hb (Nat.le_of_lt hp)
  have hb0 : Below w.heap.size w (w.alloc (.cells #[.int .i64 0, .int .i64 0, .int .i64 0, .int .i64 0] 116)) := (Below.refl _ _).alloc (Nat.le_refl _) _
  have HL0 : Hid (LQ w base p m v bs bg bf A cg sn tiles v (lsF l L0 L1 L2 L3 0) (rsF R0 R1 R2 R3 0) (w.alloc (.cells #[.int .i64 0, .int .i64 0, .int .i64 0, .int .i64 0] 116))) :=
    LQ.mk (hss.below hb0) (hcb.below hb0 hbb) (PG.below hb0) (fun e => by have := (hss.ps.own.lt _ e).2; omega) (Q4.mk (by simp [go_sem, rsF]) (by simp [go_sem, rsF]) (by simp [go_sem, rsF]) (by simp [go_sem, rsF]) (fun j => by simp [go_sem])) (by simp)
  have HK0 := Lib.hid hk0
  have HK1 := Lib.hid hk1
  have HK2 := Lib.hid hk2
  have HK3 := Lib.hid hk3
  have HL3L := Lib.hid hL3
  have HR := Lib.hid hR
  have HRR := Lib.hid hRR
  have hdv : (n : Int).tdiv 2 = (h : Int) := by rw [hn]; exact tdiv2 h
  have hn1 : ((n : Int) == 1) = false := by simp; omega
  have x8 : (x : Int) + (h : Int) ≤ 8 := by omega
  have y8 : (y : Int) + (h : Int) ≤ 8 := by omega
  have h8 : (h : Int) ≤ 4 := by omega
  have h0 : (1 : Int) ≤ (h : Int) := by omega
  clear hk0 hk1 hk2 hk3 hL3 hR hRR hss hcb hb0 hn hx hy
  go_enter Tryd.func88, Tryd.ntmps88
  go_wp2_with fail
  go_loopw [30] (fun i wr => RelQ w base p m v bs bg bf A cg sn tiles l L0 L1 L2 L3 R0 R1 R2 R3 i wr) (fun i _ => 4 - (intOf i).toNat)
  case atStart => exact ⟨0, v, rfl, Nat.zero_le _, HL0.out⟩
  case round =>
    obtain ⟨i, v1, rfl, hi, hlq⟩ := hrel
    have HL := Lib.hid hlq
    clear hlq HL0
    by_cases hi4 : i = 4
    · subst hi4
      simp only [lsF, rsF] at HL
      obtain ⟨A1, c1, rfl⟩ := HL.out.ss.ps.own.form
      have hOn := pOneLeaf_any A1 c1 L3 R0 R1 R2 R3 wr.drew (HL.out.ss.ps.own.drew.rn) (cast_nn R0) (cast_lt HR.out)
      unfold qV at hOn
      have hk := HL.out.hk1
      cases ho : oneL L3 R0 R1 R2 R3
      · rw [ho] at hOn
        have HRS : Hid (resQ L3 R0 R1 R2 R3 = addN L3 ⟨-1, R0, R1, R2, R3⟩) := by show _ = _; rw [resQ, if_neg (by rw [ho]; simp)]
        clear ho
        go_wp2_with fail
        go_region_held3 (fun w' => w'.cell? ⟨bs, 0, none⟩ = some (.pointer (some ⟨p, 0, none⟩)) ∧ w'.cell? ⟨p, 0, none⟩ = some (.slice A1 L3.length c1) ∧ w'.cell? ⟨w.heap.size, 0, none⟩ = some (.int .i64 R0) ∧ w'.cell? ⟨w.heap.size, 1, none⟩ = some (.int .i64 R1) ∧ w'.cell? ⟨w.heap.size, 2, none⟩ = some (.int .i64 R2) ∧ w'.cell? ⟨w.heap.size, 3, none⟩ = some (.int .i64 R3))
          (first
            | go_keep
            | exact hk)
          (first | (go_at_call 91; refine hOn.mono ?_; rintro e w1 ⟨rfl, hb1⟩; have HL1 := Lib.hid (HL.out.below ((Below.refl _ _).drew.trans hb1) hp hm); clear hk; have hk := HL1.out.hk2; clear hb1))
        have hk2 := HL1.out.hk3
        have hSp := pSplitOf_any R0 R1 R2 R3
        clear hk hOn
        go_wp2_with fail
        go_region_held3 (fun w' => w'.cell? ⟨bs, 0, none⟩ = some (.pointer (some ⟨p, 0, none⟩)) ∧ w'.cell? ⟨w.heap.size, 0, none⟩ = some (.int .i64 R0) ∧ w'.cell? ⟨w.heap.size, 1, none⟩ = some (.int .i64 R1) ∧ w'.cell? ⟨w.heap.size, 2, none⟩ = some (.int .i64 R2) ∧ w'.cell? ⟨w.heap.size, 3, none⟩ = some (.int .i64 R3))
          (first
            | go_keep
            | exact hk2)
          (first
            | (go_at_call 92; refine (hSp w1.drew).mono ?_; rintro e w2 ⟨rfl, hb2⟩; have HL2 := Lib.hid (HL1.out.below ((Below.refl _ _).drew.trans hb2) hp hm); clear hk2; have hk2 := HL2.out.hk4; clear hb2)
            | (go_at_call 89; refine (pKeep_any base p m _ L3 ⟨-1, R0, R1, R2, R3⟩ w2 HL2.out.ss (split_fits HRR.out) HL3L.out).mono ?_; rintro e w3 ⟨rfl, v3, hs3, hg3⟩; have HL3 := Lib.hid (HL2.out.call hs3 hg3 hp hm); clear hk2; have hk2 := HL3.out.hk4; clear hs3 hg3))
        go_wp2_with fail
        go_ret
        rw [HRS.out]
        exact ⟨rfl, v3, HL3.out.ss, HL3.out.pg⟩
      · rw [ho] at hOn
        have HRS : Hid (resQ L3 R0 R1 R2 R3 = (L3, R0)) := by show _ = _; rw [resQ, if_pos ho]
        clear ho
        go_wp2_with fail
        go_region_held3 (fun w' => w'.cell? ⟨bs, 0, none⟩ = some (.pointer (some ⟨p, 0, none⟩)) ∧ w'.cell? ⟨p, 0, none⟩ = some (.slice A1 L3.length c1) ∧ w'.cell? ⟨w.heap.size, 0, none⟩ = some (.int .i64 R0) ∧ w'.cell? ⟨w.heap.size, 1, none⟩ = some (.int .i64 R1) ∧ w'.cell? ⟨w.heap.size, 2, none⟩ = some (.int .i64 R2) ∧ w'.cell? ⟨w.heap.size, 3, none⟩ = some (.int .i64 R3))
          (first
            | go_keep
            | exact hk)
          (first | (go_at_call 91; refine hOn.mono ?_; rintro e w1 ⟨rfl, hb1⟩; have HL1 := Lib.hid (HL.out.below ((Below.refl _ _).drew.trans hb1) hp hm); clear hk; have hk := HL1.out.hk2; clear hb1))
        have c0 := HL1.out.q4.c0
        simp only at c0
        clear hk hOn
        go_wp2_with fail
        go_ret
        rw [HRS.out]
        exact ⟨rfl, _, HL1.out.ss, HL1.out.pg⟩
    · have h4 : i = 0 ∨ i = 1 ∨ i = 2 ∨ i = 3 := by omega
      clear hi hi4
      rcases h4 with rfl | rfl | rfl | rfl
      · have hc := HK0.out v1 wr HL.out.ss HL.out.cb
        have k0 := HL.out.cb.k0
        go_wp2_with fail
        refine hc.mono ?_
        rintro e w2 ⟨rfl, v2, hs2, hg2⟩
        have HL2 := Lib.hid (HL.out.call hs2 hg2 hp hm)
        clear hc hs2 hg2 k0
        obtain ⟨c0, c1, c2, c3, fz⟩ := HL2.out.q4
        simp only [rsF] at c0 c1 c2 c3
        have fzj := fz 0
        have HL3 := Lib.hid (HL2.out.store (q' := rsF R0 R1 R2 R3 1) 0 R0 (HL2.out.q4.set0 R0) hp hm hbs hbg hbf hbb)
        clear fz
        go_wp2_with fail
        go_roundw
        case rel => exact ⟨1, v2, by go_num, by omega, HL3.out⟩
        case measure => simp [intOf]
      · have hc := HK1.out v1 wr HL.out.ss HL.out.cb
        have k0 := HL.out.cb.k0
        go_wp2_with fail
        refine hc.mono ?_
        rintro e w2 ⟨rfl, v2, hs2, hg2⟩
        have HL2 := Lib.hid (HL.out.call hs2 hg2 hp hm)
        clear hc hs2 hg2 k0
        obtain ⟨c0, c1, c2, c3, fz⟩ := HL2.out.q4
        simp only [rsF] at c0 c1 c2 c3
        have fzj := fz 1
        have HL3 := Lib.hid (HL2.out.store (q' := rsF R0 R1 R2 R3 2) 1 R1 (HL2.out.q4.set1 R1) hp hm hbs hbg hbf hbb)
        clear fz
        go_wp2_with fail
        go_roundw
        case rel => exact ⟨2, v2, by go_num, by omega, HL3.out⟩
        case measure => simp [intOf]
      · have hc := HK2.out v1 wr HL.out.ss HL.out.cb
        have k0 := HL.out.cb.k0
        go_wp2_with fail
        refine hc.mono ?_
        rintro e w2 ⟨rfl, v2, hs2, hg2⟩
        have HL2 := Lib.hid (HL.out.call hs2 hg2 hp hm)
        clear hc hs2 hg2 k0
        obtain ⟨c0, c1, c2, c3, fz⟩ := HL2.out.q4
        simp only [rsF] at c0 c1 c2 c3
        have fzj := fz 2
        have HL3 := Lib.hid (HL2.out.store (q' := rsF R0 R1 R2 R3 3) 2 R2 (HL2.out.q4.set2 R2) hp hm hbs hbg hbf hbb)
        clear fz
        go_wp2_with fail
        go_roundw
        case rel => exact ⟨3, v2, by go_num, by omega, HL3.out⟩
        case measure => simp [intOf]
      · have hc := HK3.out v1 wr HL.out.ss HL.out.cb
        have k0 := HL.out.cb.k0
        go_wp2_with fail
        refine hc.mono ?_
        rintro e w2 ⟨rfl, v2, hs2, hg2⟩
        have HL2 := Lib.hid (HL.out.call hs2 hg2 hp hm)
        clear hc hs2 hg2 k0
        obtain ⟨c0, c1, c2, c3, fz⟩ := HL2.out.q4
        simp only [rsF] at c0 c1 c2 c3
        have fzj := fz 3
        have HL3 := Lib.hid (HL2.out.store (q' := rsF R0 R1 R2 R3 4) 3 R3 (HL2.out.q4.set3 R3) hp hm hbs hbg hbf hbb)
        clear fz
        go_wp2_with fail
        go_roundw
        case rel => exact ⟨4, v2, by go_num, by omega, HL3.out⟩
        case measure => simp [intOf]
end Go.Proofs.YtoobkajilbmdhaaDoor

namespace Go.Proofs.YtoobkajilbmdhaaDoor
open Go.RowKit
set_option linter.unusedVariables false

theorem msq_lt (T : Nat → Nat → Int) (d x y : Nat) (l : List Nd) : (msq T d x y l).2 < (msq T d x y l).1.length := by
  obtain ⟨n, h, _⟩ := msq_at T d x y l
  exact (List.getElem?_eq_some_iff.1 h).1
theorem pre_len {a b : List Nd} (h : ∃ t, b = a ++ t) : a.length ≤ b.length := by obtain ⟨t, rfl⟩ := h; simp
theorem pSq_succ (sn : Nat) (tiles : List Int) (hs8 : sn ≤ 8) (htt : ∀ t ∈ tiles, 0 ≤ t ∧ t ≤ 9) (d : Nat) (ih : SqDoes sn tiles d) : SqDoes sn tiles (d + 1) := by
  intro base p m bs bg bf x y cg v l A w hx hy hss hcb hlen
  have hT : ∀ x y, tileF sn tiles x y ≠ -1 := fun x y => by
    unfold tileF
    by_cases hi : y * sn + x < tiles.length
    · have := htt _ (List.getElem_mem hi); simp [List.getD, hi]; omega
    · simp [List.getD, hi]
  have HM := psq_msq (tileF sn tiles) hT (d + 1) x y l
  have HM1 := psq_msq (tileF sn tiles) hT d
  have e2 : 2 ^ (d + 1) = 2 * 2 ^ d := by rw [Nat.pow_succ, Nat.mul_comm]
  have hp1 : 1 ≤ 2 ^ d := Nat.one_le_two_pow
  have E : msq (tileF sn tiles) (d + 1) x y l = resQ (msq (tileF sn tiles) d (x + 2 ^ d) (y + 2 ^ d) (msq (tileF sn tiles) d x (y + 2 ^ d) (msq (tileF sn tiles) d (x + 2 ^ d) y (msq (tileF sn tiles) d x y l).1).1).1).1
      (msq (tileF sn tiles) d x y l).2 (msq (tileF sn tiles) d (x + 2 ^ d) y (msq (tileF sn tiles) d x y l).1).2 (msq (tileF sn tiles) d x (y + 2 ^ d) (msq (tileF sn tiles) d (x + 2 ^ d) y (msq (tileF sn tiles) d x y l).1).1).2 (msq (tileF sn tiles) d (x + 2 ^ d) (y + 2 ^ d) (msq (tileF sn tiles) d x (y + 2 ^ d) (msq (tileF sn tiles) d (x + 2 ^ d) y (msq (tileF sn tiles) d x y l).1).1).1).2 := by
    rw [← HM]
    simp only [psq, HM1]
    rfl
  rw [E]
  clear HM HM1 E hT
  simp only [cnt] at hlen
  have b0 := msq_len (tileF sn tiles) d x y l
  have b1 := msq_len (tileF sn tiles) d (x + 2 ^ d) y (msq (tileF sn tiles) d x y l).1
  have b2 := msq_len (tileF sn tiles) d x (y + 2 ^ d) (msq (tileF sn tiles) d (x + 2 ^ d) y (msq (tileF sn tiles) d x y l).1).1
  have b3 := msq_len (tileF sn tiles) d (x + 2 ^ d) (y + 2 ^ d) (msq (tileF sn tiles) d x (y + 2 ^ d) (msq (tileF sn tiles) d (x + 2 ^ d) y (msq (tileF sn tiles) d x y l).1).1).1
  have t0 := msq_lt (tileF sn tiles) d x y l
  have t1 := msq_lt (tileF sn tiles) d (x + 2 ^ d) y (msq (tileF sn tiles) d x y l).1
  have t2 := msq_lt (tileF sn tiles) d x (y + 2 ^ d) (msq (tileF sn tiles) d (x + 2 ^ d) y (msq (tileF sn tiles) d x y l).1).1
  have t3 := msq_lt (tileF sn tiles) d (x + 2 ^ d) (y + 2 ^ d) (msq (tileF sn tiles) d x (y + 2 ^ d) (msq (tileF sn tiles) d (x + 2 ^ d) y (msq (tileF sn tiles) d x y l).1).1).1
  have p1 := pre_len (msq_pre (tileF sn tiles) d (x + 2 ^ d) y (msq (tileF sn tiles) d x y l).1)
  have p2 := pre_len (msq_pre (tileF sn tiles) d x (y + 2 ^ d) (msq (tileF sn tiles) d (x + 2 ^ d) y (msq (tileF sn tiles) d x y l).1).1)
  have p3 := pre_len (msq_pre (tileF sn tiles) d (x + 2 ^ d) (y + 2 ^ d) (msq (tileF sn tiles) d x (y + 2 ^ d) (msq (tileF sn tiles) d (x + 2 ^ d) y (msq (tileF sn tiles) d x y l).1).1).1)
  refine pSq_body sn tiles (2 ^ (d + 1)) (2 ^ d) e2 hp1 base p m bs bg bf x y cg v l (msq (tileF sn tiles) d x y l).1 (msq (tileF sn tiles) d (x + 2 ^ d) y (msq (tileF sn tiles) d x y l).1).1 (msq (tileF sn tiles) d x (y + 2 ^ d) (msq (tileF sn tiles) d (x + 2 ^ d) y (msq (tileF sn tiles) d x y l).1).1).1 _ _ _ _ _ A w (by omega) (by omega) hss hcb (by omega) (by omega) ⟨by omega, by omega, by omega, by omega⟩ ?_ ?_ ?_ ?_
  · intro v' w' hs hc
    exact ih base p m bs bg bf x y cg v' _ A w' (by omega) (by omega) hs hc (by omega)
  · intro v' w' hs hc
    have := ih base p m bs bg bf (x + 2 ^ d) y cg v' _ A w' (by omega) (by omega) hs hc (by omega)
    rw [Int.natCast_add] at this
    exact this
  · intro v' w' hs hc
    have := ih base p m bs bg bf x (y + 2 ^ d) cg v' _ A w' (by omega) (by omega) hs hc (by omega)
    rw [Int.natCast_add] at this
    exact this
  · intro v' w' hs hc
    have := ih base p m bs bg bf (x + 2 ^ d) (y + 2 ^ d) cg v' _ A w' (by omega) (by omega) hs hc (by omega)
    rw [Int.natCast_add, Int.natCast_add] at this
    exact this
theorem pSq_any (sn : Nat) (tiles : List Int) (hs8 : sn ≤ 8) (htl : tiles.length = sn * sn) (htt : ∀ t ∈ tiles, 0 ≤ t ∧ t ≤ 9) : ∀ d, SqDoes sn tiles d
  | 0 => pSq_zero sn tiles hs8 htl htt
  | d + 1 => pSq_succ sn tiles hs8 htt d (pSq_any sn tiles hs8 htl htt d)

/-- putGrid. -/
def GridPut (sn : Nat) (tiles : List Int) (l : List Nd) : List Nd × Nat := msq (tileF sn tiles) (dbl sn) 0 0 l
set_option maxRecDepth 100000 in
set_option maxHeartbeats 1000000 in
theorem pPutGrid_any (sn : Nat) (tiles : List Int) (hs : sideOk (sn : Int) = true) (htl : tiles.length = sn * sn) (htt : ∀ t ∈ tiles, 0 ≤ t ∧ t ≤ 9) (base p m cg : Nat) (v : Value) (l : List Nd) (A : Option Addr) (w : World) (hss : SS base p m v l w) (hri : RI w base A tiles) (hlen : l.length ≤ 1000) :
    Calls Tryd.prog 45 #[.pointer (some ⟨p, 0, none⟩), .agg #[.int .i64 sn, .slice A tiles.length cg]] w fun e w' => e = .returned (.int .i64 (GridPut sn tiles l).2) ∧ ∃ v', SS base p m v' (GridPut sn tiles l).1 w' ∧ PG p m v v' w w' := by
  obtain ⟨sn', e1, hs8, hpw, hd3⟩ := pow_dbl hs
  obtain rfl : sn = sn' := by omega
  have HD := Lib.hid (pSq_any sn tiles hs8 htl htt (dbl sn))
  have HS := Lib.hid hss
  have HRI := Lib.hid hri
  have HPW := Lib.hid hpw
  have HD3 := Lib.hid hd3
  have hp := hss.ps.lt
  have hm := hss.map.lt
  have HR := Lib.hid (fun k (h : v.ownBlock = some k) => (hss.ps.own.lt k h).2)
  have HBB : Hid (base ≤ w.heap.size) := Nat.le_trans hss.ps.hb (Nat.le_of_lt hp)
  clear hss hri hs htl htt e1 hpw hd3
  have hmf : ∀ (fn : Fn) (first cap : Array Value) (w : World), (Instr.makeFunc fn first cap).run Tryd.prog w = .ok (.func fn first cap) w := fun _ _ _ _ => rfl
  go_enter Tryd.func45, Tryd.ntmps45
  go_wp2_with fail
  have hc := fun bs bg bf W => HD.out base p m bs bg bf 0 0 cg v l A W
  simp only [HPW.out, Int.natCast_zero, Nat.zero_add] at hc
  refine (hc _ _ _ _ (Nat.le_refl _) (Nat.le_refl _) ?_ ?_ (by have := cnt_le HD3.out; omega)).mono ?_
  · exact HS.out.below ((((Below.refl _ _).alloc (Nat.le_refl _) _).alloc (by simp) _).alloc (by simp; omega) _)
  · have hb3 := HBB.out
    refine CB.mk (by simp [go_sem]) (by simp [go_sem]) (by simp [go_sem]) (by simp [go_sem]) (HRI.out.below ((((Below.refl base w).alloc HBB.out _).alloc (by simp; omega) _).alloc (by simp; omega) _)) ⟨by simp; omega, by omega, by omega, fun e => by have := HR.out _ e; omega⟩ ⟨by simp, by omega, by omega, fun e => by have := HR.out _ e; omega⟩ ⟨by simp, by omega, by omega, fun e => by have := HR.out _ e; omega⟩
  · rintro e w2 ⟨rfl, v2, hs2, hg2⟩
    have HS2 := Lib.hid hs2
    have HG2 := Lib.hid ((PG.below (p := p) (m := m) (v := v) ((((Below.refl w.heap.size w).alloc (Nat.le_refl _) _).alloc (by simp) _).alloc (by simp; omega) _)).trans hg2)
    clear hs2 hg2 hc
    go_wp2_with fail
    go_ret
    exact ⟨rfl, v2, HS2.out, HG2.out⟩
end Go.Proofs.YtoobkajilbmdhaaDoor

namespace Go.Proofs.YtoobkajilbmdhaaDoor
open Go.RowKit
set_option linter.unusedVariables false

set_option maxHeartbeats 400000 in
theorem pCloneN_any (b off c : Nat) (l : List Nd) (w : World) (hn : NAt w b off l) (hl : l.length ≤ 1000000) :
    Calls Tryd.prog 87 #[.slice (some ⟨b, off, none⟩) l.length c] w fun e w' => ∃ A' c', e = .returned (.slice A' l.length c') ∧ OwnN w' w.heap.size (.slice A' l.length c') l ∧ Below w.heap.size w w' := by
  obtain ⟨i0, hi, hz0, hz1, hz2⟩ := info_parts Tryd.infoNode
  have HB := Lib.hid ((Below.refl w.heap.size w).alloc (Nat.le_refl _) (.cells #[] 84))
  have HO := Lib.hid (OwnN.lit0 (w := w) (base := w.heap.size) (Nat.le_refl _))
  have HN := Lib.hid (hn.below HB.out)
  clear hn
  have hq : ∀ (w : World) (a : Option Addr) (n c n' c' : Nat), (binOp .eql 23 (.slice a n c) (.slice none n' c')).run Tryd.prog w = .ok (.bool a.isNone) w := fun w a n c n' c' => Lib.run_eql_slice_nil w _ _ a n c n' c' Tryd.underlying23
  go_enter Tryd.func87, Tryd.ntmps87
  go_wp2_with (at_builtin; refine append_nodes hi hz0 hz1 hz2 rfl _ _ rfl w.heap.size _ [] l (w.alloc (.cells #[] 84)) b off c HO.out rfl rfl HN.out.2 (by simp; omega) (by simp) ?_; intro v' w1 hown1 hg1)
  go_ret
  rw [List.nil_append] at hown1
  obtain ⟨A', c', rfl⟩ := hown1.form
  exact ⟨A', c', rfl, hown1, HB.out.trans ((Below.refl _ _).grown hg1 (by simp) (fun k hk => by cases hk; exact Nat.le_refl _))⟩

/-- The shelf while it is filled: lm are the nodes that its map knows. -/
structure SK (base p m : Nat) (v : Value) (l lm : List Nd) (w : World) : Prop where
  ps : PS base p v l w
  c1 : w.cell? ⟨p, 1, none⟩ = some (.map (some m))
  map : MapI w m lm.length (fun x => lm.findIdx? (fun y => y == x))
  hm : base ≤ m
  nm : m ≠ p
  nr : v.ownBlock ≠ some m
theorem SK.below {base p m : Nat} {v : Value} {l lm : List Nd} {w w' : World} (h : SK base p m v l lm w) (hb : Below w.heap.size w w') : SK base p m v l lm w' :=
  ⟨h.ps.below hb, (hb.cell (p := ⟨p, 1, none⟩) h.ps.lt).trans h.c1, h.map.keep (hb.block m h.map.lt), h.hm, h.nm, h.nr⟩
theorem not_ahead {l : List Nd} (hr : poolRight l = true) {k : Nat} (hk : k < l.length) : (l.take k).findIdx? (fun y => y == l[k]) = none := by
  have h1 := find_mem hk
  rw [poolRight, decide_eq_true_iff] at hr
  rw [(hr.2 k hk).2] at h1
  simp at h1
  rw [List.findIdx?_eq_none_iff]
  intro y hy
  have : y ≠ l[k] := fun e => h1 (by rw [← e]; exact hy)
  simpa using this

set_option maxRecDepth 100000 in
set_option maxHeartbeats 1000000 in
theorem pShelfOf_any (b off c : Nat) (l : List Nd) (w : World) (hn : NAt w b off l) (hr : poolRight l = true) (hf : ∀ n ∈ l, n.Fits) :
    Calls Tryd.prog 44 #[.agg #[.slice (some ⟨b, off, none⟩) l.length c]] w fun e w' => ∃ p m v, e = .returned (.pointer (some ⟨p, 0, none⟩)) ∧ SS w.heap.size p m v l w' ∧ Below w.heap.size w w' := by
  have hl := pool_len hr
  have HR := Lib.hid hr
  have HF := Lib.hid hf
  have hb0 : Below w.heap.size w (w.alloc (.cells #[.slice (some ⟨b, off, none⟩) l.length c] 25)) := (Below.refl _ _).alloc (Nat.le_refl _) _
  have hCl := pCloneN_any b off c l (w.alloc (.cells #[.slice (some ⟨b, off, none⟩) l.length c] 25)) (hn.below hb0) (by omega)
  have hmm := @run_makeMap Tryd.prog
  clear hn hr hf
  go_enter Tryd.func44, Tryd.ntmps44
  go_wp2_with fail
  refine hCl.mono ?_
  rintro e w1 ⟨A1, c1, rfl, ho1, hb1⟩
  have HO1 := Lib.hid ho1
  have HB1 := Lib.hid (hb0.trans (hb1.mono hb0.size))
  have hz1 : w.heap.size < w1.heap.size := by have := hb1.size; simp at this; omega
  clear hCl ho1 hb1 hb0
  go_wp2_with fail
  have HO2 : Hid (OwnN w1 w.heap.size (.slice A1 l.length c1) l) := OwnN.lower (by simp) HO1.out
  have hbz : Below w1.heap.size w1 ((w1.alloc (.map #[] 0)).alloc (.cells #[.slice A1 l.length c1, .map (some w1.heap.size)] 76)) := ((Below.refl _ _).alloc (Nat.le_refl _) _).alloc (by simp) _
  have HRW : Hid (∀ k, (Value.slice A1 l.length c1).ownBlock = some k → k < w1.heap.size) := fun k h => (HO2.out.lt k h).2
  have HSK : Hid (SK w.heap.size (w1.heap.size + 1) w1.heap.size (.slice A1 l.length c1) l (l.take 0) ((w1.alloc (.map #[] 0)).alloc (.cells #[.slice A1 l.length c1, .map (some w1.heap.size)] 76))) :=
    SK.mk (PS.mk (by simp [go_sem]) (by simp [go_sem]) (HO2.out.keep hbz) (by omega) (by simp) (fun e => by have := HRW.out _ e; omega)) (by simp [go_sem]) ((MapI.made w1).keep (by rw [Below.heap_alloc _ _ _ (by simp)])) (by omega) (by omega) (fun e => by have := HRW.out _ e; omega)
  have HBZ := Lib.hid (HB1.out.trans (hbz.mono (Nat.le_of_lt hz1)))
  clear HO1 HO2 hbz HB1 HRW
  generalize hP : w1.heap.size + 1 = p at *
  generalize hM : w1.heap.size = m at *
  generalize (w1.alloc (.map #[] 0)).alloc (.cells #[.slice A1 l.length c1, .map (some m)] 76) = W1 at *
  clear hP hM hmm
  go_loopw [17] (fun i wr => ∃ k : Nat, i = .int .i64 k ∧ k ≤ l.length ∧ SK w.heap.size p m (.slice A1 l.length c1) l (l.take k) wr ∧ Below w.heap.size w wr) (fun i _ => l.length - (intOf i).toNat)
  case atStart => exact ⟨0, rfl, Nat.zero_le _, HSK.out, HBZ.out⟩
  case round =>
    obtain ⟨k, rfl, hk, hsk, hb⟩ := hrel
    have HS := Lib.hid hsk
    have HB := Lib.hid hb
    clear HSK HBZ hb
    by_cases hlt : k < l.length
    · obtain ⟨g, rfl, _, hgl, hN, _⟩ := hsk.ps.own.at_ hlt
      have HNA := Lib.hid (not_ahead HR.out hlt)
      have HFk := Lib.hid (HF.out _ (List.getElem_mem hlt))
      have HTK := Lib.hid (List.take_succ_eq_append_getElem hlt)
      have HLK : Hid ((l.take k).length = k) := by show _ = _; simp; omega
      clear hsk
      generalize hnk : l[k] = n at hN HNA HFk HTK
      clear hnk
      obtain ⟨nt, na, nb, nc, nd⟩ := n
      obtain ⟨d0, d1, d2, d3, d4⟩ := hN
      simp only at d0 d1 d2 d3 d4
      have k0 : (0 : Int) ≤ (k : Int) := cast_nn k
      have k1 : (k : Int) < (l.length : Int) := cast_lt hlt
      go_wp2_with fail
      have hba : Below wr.heap.size wr (wr.alloc (.cells #[.int .i64 nt, .int .i64 na, .int .i64 nb, .int .i64 nc, .int .i64 nd] 84)) := (Below.refl _ _).alloc (Nat.le_refl _) _
      have HSW := Lib.hid (HS.out.below hba)
      have HBW := Lib.hid (HB.out.trans (hba.mono HB.out.size))
      have hx0 : NdAt (wr.alloc (.cells #[.int .i64 nt, .int .i64 na, .int .i64 nb, .int .i64 nc, .int .i64 nd] 84)) wr.heap.size 0 ⟨nt, na, nb, nc, nd⟩ := ⟨by simp [go_sem], by simp [go_sem], by simp [go_sem], by simp [go_sem], by simp [go_sem]⟩
      have HX := Lib.hid hx0
      clear hx0 hba d0 d1 d2 d3 d4 HS HB
      generalize wr.alloc (.cells #[.int .i64 nt, .int .i64 na, .int .i64 nb, .int .i64 nc, .int .i64 nd] 84) = W at *
      generalize wr.heap.size = N at *
      obtain ⟨w3, hrun, hm3, hg3⟩ := MapI.put (HSW.out.below (Below.refl _ _).drew).map HFk.out (by rw [HLK.out]; unfold maxLen; omega) (i := k) (by omega)
      unfold Nd.val at hrun
      simp only at hrun
      have HM3 := Lib.hid hm3
      have HG3 : Hid (W.grownBy w3 (some m)) := ⟨hg3.os, hg3.tape, hg3.output, hg3.size, hg3.block⟩
      clear hm3 hg3
      have c0 := HSW.out.ps.c0
      have c1' := HSW.out.c1
      obtain ⟨e0, e1, e2, e3, e4⟩ := HX.out.five
      simp only at e0 e1 e2 e3 e4
      go_region
      clear e0 e1 e2 e3 e4 c0 c1' hrun
      have hpm : p ≠ m := fun e => HSW.out.nm e.symm
      have HS3 : Hid (SK w.heap.size p m (.slice (some ⟨g, 0, none⟩) l.length c1) l (l.take (k + 1)) w3) := by
        have h := HSW.out
        refine SK.mk ⟨HG3.out.cell h.ps.c0 (by simpa using hpm), (World.frozen?_of_block (a := ⟨p, 0, none⟩) (HG3.out.block p h.ps.lt (by simpa using hpm))).trans h.ps.f0, World.ownsRow.kept h.ps.own HG3.out (.inr h.nr), h.ps.hb, Nat.lt_of_lt_of_le h.ps.lt HG3.out.size, h.ps.ne⟩ (HG3.out.cell h.c1 (by simpa using hpm)) ?_ h.hm h.nm h.nr
        rw [HTK.out]
        refine MapI.fits ?_ (fun z => (find_snoc HNA.out z).symm)
        have h9 := HM3.out
        rw [List.length_append, HLK.out]
        rw [HLK.out] at h9
        exact h9
      have HB3 : Hid (Below w.heap.size w w3) := HBW.out.grown HG3.out HBW.out.size (fun j hj => by cases hj; exact HSW.out.hm)
      clear HSW HBW HX HM3 HG3
      go_wp2_with fail
      go_roundw
      case rel => exact ⟨k + 1, by go_num, by omega, HS3.out, HB3.out⟩
      case measure => simp [intOf]; omega
    · have ek : k = l.length := by omega
      subst ek
      rw [List.take_length] at HS
      clear hsk
      go_wp2_with fail
      go_ret
      exact ⟨p, m, _, rfl, ⟨HS.out.ps, HS.out.c1, HS.out.map, HS.out.hm, HS.out.nm, HS.out.nr⟩, HB.out⟩
end Go.Proofs.YtoobkajilbmdhaaDoor

namespace Go.Proofs.YtoobkajilbmdhaaDoor
open Go.RowKit
set_option linter.unusedVariables false

set_option maxHeartbeats 400000 in
theorem pTooFull_any (p n c : Nat) (A : Option Addr) (w : World) (h : w.cell? ⟨p, 0, none⟩ = some (.slice A n c)) :
    Calls Tryd.prog 46 #[.pointer (some ⟨p, 0, none⟩)] w fun e w' => e = .returned (.bool (decide ((200 : Int) < (n : Int)))) ∧ w = w' := by
  go_enter Tryd.func46, Tryd.ntmps46
  go_wp2
  go_ret
  exact ⟨rfl, rfl⟩

set_option maxRecDepth 100000 in
set_option maxHeartbeats 2000000 in
theorem pPoolPut_any (b off c cg : Nat) (l : List Nd) (side : Int) (A' : Option Addr) (tiles : List Int) (w : World) (hn : NAt w b off l) (hl : l.length ≤ 1048576) (hri : RI w w.heap.size A' tiles) (htl : tiles.length ≤ 1048576) (hc : l.length ≤ c) (hf : ∀ n ∈ l, n.Fits) :
    Calls Tryd.prog 7 #[.agg #[.slice (some ⟨b, off, none⟩) l.length c], .agg #[.int .i64 side, .slice A' tiles.length cg]] w (POut w (putP l side tiles)) := by
  have HN := Lib.hid hn
  have HRI := Lib.hid hri
  have HB0 := Lib.hid (BY.made w (.slice (some ⟨b, off, none⟩) l.length c) side (.slice A' tiles.length cg))
  have hPR := fun w h => pPoolRight_any (some ⟨b, off, none⟩) c l w h hl hc hf
  have hGR := fun w h => pRight_any side A' cg tiles w h (by omega)
  have HFF := Lib.hid hf
  clear hn hri hf
  have hsz0 := HB0.out.siz
  have HRN0 := Lib.hid (HN.out.rn.below HB0.out.bel)
  cases hr : poolRight l
  · rw [hr] at hPR
    have HR : Hid (putP l side tiles = (1, 0, [])) := by show _ = _; simp [putP, hr]
    clear hr
    go_enter Tryd.func7, Tryd.ntmps7
    go_wp2_with fail
    refine (hPR _ (HRN0.out.mono HB0.out.bel.size)).mono ?_
    rintro e w1 ⟨rfl, hb1⟩
    have HB1 := Lib.hid (HB0.out.step (hb1.mono hsz0))
    obtain ⟨p0, g0, g1, r0, r1, r2, f0, f1, f2, hz1, _⟩ := HB1.out
    clear hb1
    have HB4 := HB1
    have hz4 := hz1
    go_wp2_with fail
    rw [HR.out]
    refine bodyPost_ret (v := .agg #[.slice none 0 0, .int .i64 0, .int .i64 1]) (by simp [results, Tryd.results7, go_sem, r0, r1, r2]) rfl ⟨none, 0, rfl, OwnN.nil _ _, ?_⟩
    exact ((HB4.out.bel.setCell (by simp; omega) _).setCell (by simp; omega) _).setCell (by simp; omega) _
  · rw [hr] at hPR
    have h200 := pool_len hr
    cases hg : gridRight side tiles
    · rw [hg] at hGR
      have HR : Hid (putP l side tiles = (1, 0, [])) := by show _ = _; simp [putP, hg]
      clear hr hg
      go_enter Tryd.func7, Tryd.ntmps7
      go_wp2_with fail
      refine (hPR _ (HRN0.out.mono HB0.out.bel.size)).mono ?_
      rintro e w1 ⟨rfl, hb1⟩
      have HB1 := Lib.hid (HB0.out.step (hb1.mono hsz0))
      obtain ⟨p0, g0, g1, r0, r1, r2, f0, f1, f2, hz1, _⟩ := HB1.out
      clear hb1
      go_wp2_with fail
      refine (hGR _ ((HRI.out.below HB1.out.bel).mono HB1.out.bel.size)).mono ?_
      rintro e w2 ⟨rfl, hb2⟩
      have HB2 := Lib.hid (HB1.out.step (hb2.mono HB1.out.siz))
      clear hb2 p0 g0 g1 r0 r1 r2 f0 f1 f2
      have HB4 := HB2
      obtain ⟨p0, g0, g1, r0, r1, r2, f0, f1, f2, hz4, _⟩ := HB4.out
      go_wp2_with fail
      rw [HR.out]
      refine bodyPost_ret (v := .agg #[.slice none 0 0, .int .i64 0, .int .i64 1]) (by simp [results, Tryd.results7, go_sem, r0, r1, r2]) rfl ⟨none, 0, rfl, OwnN.nil _ _, ?_⟩
      exact ((HB4.out.bel.setCell (by simp; omega) _).setCell (by simp; omega) _).setCell (by simp; omega) _
    · rw [hg] at hGR
      obtain ⟨sn, rfl, hs1, hs8, hln⟩ := right_nat hg
      have HSO := Lib.hid (right_parts hg).1
      have HLN := Lib.hid hln
      have HR : Hid (putP l sn tiles = putR l sn tiles) := by show _ = _; simp [putP, putR, hg, hr]
      have HTT : Hid (∀ t ∈ tiles, 0 ≤ t ∧ t ≤ 9) := by
        intro t ht
        obtain ⟨j, hj, rfl⟩ := List.getElem_of_mem ht
        exact (right_parts hg).2.2 j hj
      have HPR := Lib.hid hr
      clear hr hg hln
      go_enter Tryd.func7, Tryd.ntmps7
      go_wp2_with fail
      refine (hPR _ (HRN0.out.mono HB0.out.bel.size)).mono ?_
      rintro e w1 ⟨rfl, hb1⟩
      have HB1 := Lib.hid (HB0.out.step (hb1.mono hsz0))
      obtain ⟨p0, g0, g1, r0, r1, r2, f0, f1, f2, hz1, _⟩ := HB1.out
      clear hb1
      go_wp2_with fail
      refine (hGR _ ((HRI.out.below HB1.out.bel).mono HB1.out.bel.size)).mono ?_
      rintro e w2 ⟨rfl, hb2⟩
      have HB2 := Lib.hid (HB1.out.step (hb2.mono HB1.out.siz))
      clear hb2 p0 g0 g1 r0 r1 r2 f0 f1 f2
      obtain ⟨p0, g0, g1, r0, r1, r2, f0, f1, f2, hz2, _⟩ := HB2.out
      have HNA := Lib.hid (HN.out.below HB2.out.bel)
      have hSh := pShelfOf_any b off c l w2 HNA.out HPR.out HFF.out
      go_wp2_with fail
      refine hSh.mono ?_
      rintro e w3 ⟨sp, sm, v3, rfl, hs3, hb3⟩
      have HB3 := Lib.hid (HB2.out.step (hb3.mono HB2.out.siz))
      have HS3 := Lib.hid hs3
      clear hs3 hb3 p0 g0 g1 r0 r1 r2 f0 f1 f2 hSh
      obtain ⟨p0, g0, g1, r0, r1, r2, f0, f1, f2, hz3, _⟩ := HB3.out
      have hPG := pPutGrid_any sn tiles HSO.out HLN.out HTT.out w2.heap.size sp sm cg v3 l A' w3 HS3.out ((HRI.out.below HB3.out.bel).mono (by omega)) (by omega)
      go_wp2_with fail
      refine hPG.mono ?_
      rintro e w4 ⟨rfl, v4, hs4, hg4⟩
      have HB4 := Lib.hid (HB3.out.step ((HS3.out.base hg4).mono HB2.out.siz))
      have HS4 := Lib.hid hs4
      have HRR : Hid (putR l sn tiles = if (GridPut sn tiles l).1.length ≤ 200 then ((0, ((GridPut sn tiles l).2 : Int), (GridPut sn tiles l).1) : Int × Int × List Nd) else (9, 0, [])) := by exact (rfl : putR l sn tiles = _)
      clear hPG hs4 hg4 p0 g0 g1 r0 r1 r2 f0 f1 f2
      generalize GridPut sn tiles l = R at *
      obtain ⟨l4, r4⟩ := R
      simp only at HS4 HRR
      obtain ⟨A4, c4, rfl⟩ := HS4.out.ps.own.form
      have k0 := HS4.out.ps.c0
      obtain ⟨p0, g0, g1, r0, r1, r2, f0, f1, f2, hz4, _⟩ := HB4.out
      by_cases h2 : l4.length ≤ 200
      · have hd : decide ((200 : Int) < (l4.length : Int)) = false := by simp; omega
        rw [if_pos h2] at HRR
        have hTF := pTooFull_any sp l4.length c4 A4 w4 k0
        rw [hd] at hTF
        go_wp2_with fail
        refine hTF.mono ?_
        rintro e w5 ⟨rfl, rfl⟩
        clear hTF
        go_wp2_with fail
        rw [HR.out, HRR.out]
        refine bodyPost_ret (v := .agg #[.slice A4 l4.length c4, .int .i64 r4, .int .i64 0]) (by simp [results, Tryd.results7, go_sem, r0, r1, r2]) rfl ⟨A4, c4, rfl, ?_, ?_⟩
        · exact OwnN.lower (base := w2.heap.size) (by omega) (OwnN.set_below (by show w.heap.size + 1 + 1 < _; omega) _ (OwnN.set_below (by show w.heap.size + 1 + 1 < _; omega) _ (OwnN.set_below (by show w.heap.size + 1 + 1 < _; omega) _ HS4.out.ps.own)))
        · exact ((HB4.out.bel.setCell (by simp; omega) _).setCell (by simp; omega) _).setCell (by simp; omega) _
      · have hd : decide ((200 : Int) < (l4.length : Int)) = true := by simp; omega
        rw [if_neg h2] at HRR
        have hTF := pTooFull_any sp l4.length c4 A4 w4 k0
        rw [hd] at hTF
        go_wp2_with fail
        refine hTF.mono ?_
        rintro e w5 ⟨rfl, rfl⟩
        clear hTF
        go_wp2_with fail
        rw [HR.out, HRR.out]
        refine bodyPost_ret (v := .agg #[.slice none 0 0, .int .i64 0, .int .i64 9]) (by simp [results, Tryd.results7, go_sem, r0, r1, r2]) rfl ⟨none, 0, rfl, OwnN.nil _ _, ?_⟩
        exact ((HB4.out.bel.setCell (by simp; omega) _).setCell (by simp; omega) _).setCell (by simp; omega) _
end Go.Proofs.YtoobkajilbmdhaaDoor

namespace Go.Proofs.YtoobkajilbmdhaaDoor
open Go.RowKit
set_option linter.unusedVariables false
set_option linter.unusedSimpArgs false

theorem leaf_tile {l : List Nd} (hr : poolRight l = true) {k : Nat} (hk : k < l.length) (hf : leafN l[k] = true) : tileOk l[k].tile = true := by
  have h := right_node hr hk
  rw [nodeOk, if_pos hf, leafOk] at h
  simp only [Bool.and_eq_true] at h
  exact h.1.1.1.1
theorem tileN_ok {l : List Nd} (hr : poolRight l = true) : ∀ (d k x y : Nat) (hk : k < l.length), (hts l).getD k 0 ≤ d → tileOk (tileN l d k x y) = true := by
  intro d
  induction d with
  | zero =>
    intro k x y hk hh
    cases hf : leafN l[k]
    · obtain ⟨e, he, _⟩ := tile_down hr (x := x) (y := y) hk hf hh
      omega
    · rw [tileN_leaf (by rw [ndAt_eq hk]; exact hf), ndAt_eq hk]
      exact leaf_tile hr hk hf
  | succ d ih =>
    intro k x y hk hh
    cases hf : leafN l[k]
    · obtain ⟨e, he, hq, hq2, ht⟩ := tile_down hr (x := x) (y := y) hk hf hh
      obtain rfl : e = d := by omega
      rw [ht]
      exact ih _ _ _ (by omega) hq2
    · rw [tileN_leaf (by rw [ndAt_eq hk]; exact hf), ndAt_eq hk]
      exact leaf_tile hr hk hf
theorem getTo_ok {l : List Nd} (hr : poolRight l = true) {d root : Nat} (hk : root < l.length) (hh : (hts l).getD root 0 ≤ d) : ∀ k, ∀ t ∈ getTo l d root k, tileOk t = true
  | 0, t, h => by simp [getTo] at h
  | k + 1, t, h => by
    rw [getTo, List.mem_append] at h
    rcases h with h | h
    · exact getTo_ok hr hk hh k t h
    · simp only [List.mem_singleton] at h
      rw [h]
      exact tileN_ok hr _ _ _ _ hk hh
/-- What is got is right. -/
theorem getP_right {l : List Nd} {rt side : Int} (h : (getP l rt side).1 = 0) : gridRight side (getP l rt side).2.2 = true := by
  obtain ⟨hr, hs, h1, h2, h3⟩ := getP_ok h
  have hall : ∀ t ∈ (getP l rt side).2.2, tileOk t = true := by
    have e : getP l rt side = getG l rt side := by simp [getP, hr, hs]
    rw [e] at h ⊢
    unfold getG at h ⊢
    cases ht : thereN l.length rt
    · rw [ht, if_neg (by simp)] at h
      exact absurd h (by decide)
    · rw [ht, if_pos rfl] at h
      rw [if_pos rfl]
      by_cases hh : (hts l).getD rt.toNat 0 ≤ (dbl side.toNat : Int)
      · rw [if_pos hh]
        have hb : 0 ≤ rt ∧ rt < l.length := by simp [thereN, inIs] at ht; omega
        exact getTo_ok hr (by omega) hh _
      · rw [if_neg hh] at h
        exact absurd h (by decide)
  have hlen : ((getP l rt side).2.2.length : Int) = side * side := by
    rw [h2]
    rcases (sideOk_iff side).1 hs with rfl | rfl | rfl | rfl <;> rfl
  simp only [gridRight, Bool.and_eq_true, beq_iff_eq, List.all_eq_true]
  exact ⟨⟨hs, hlen⟩, hall⟩
theorem set_right' {side : Int} {t : List Int} {k : Nat} {n : Int} (h : gridRight side t = true) (hn : tileOk n = true) : gridRight side (t.set k n) = true := by
  simp only [gridRight, Bool.and_eq_true, List.length_set, List.all_eq_true] at h ⊢
  refine ⟨h.1, fun x hx => ?_⟩
  rcases List.mem_or_eq_of_mem_set hx with hx | rfl
  · exact h.2 x hx
  · exact hn
theorem putP_R {l : List Nd} {side : Int} {t : List Int} (hr : poolRight l = true) (hg : gridRight side t = true) : putP l side t = putR l side.toNat t := by
  simp [putP, putR, hr, hg]

theorem putR_len (l : List Nd) (sn : Nat) (t : List Int) : (putR l sn t).2.2.length ≤ 200 := by
  unfold putR
  simp only
  split
  · next h => exact h
  · simp
theorem setP_len (l : List Nd) (rt side x y tile : Int) : (setP l rt side x y tile).2.2.length ≤ 200 := by
  unfold setP
  split
  · split
    · split
      · exact putR_len _ _ _
      · simp
    · simp
  · simp

set_option maxRecDepth 100000 in
set_option maxHeartbeats 1000000 in
theorem pPoolSet_any (A : Option Addr) (c : Nat) (l : List Nd) (rt side x y tile : Int) (w : World) (h : RN w w.heap.size A l) (hl : l.length ≤ 1048576) (hc : l.length ≤ c) (hf : ∀ n ∈ l, n.Fits) (hx : In64 x) (hy : In64 y) (htab : HasTab w) :
    Calls Tryd.prog 11 #[.agg #[.slice A l.length c], .int .i64 rt, .int .i64 side, .int .i64 x, .int .i64 y, .int .i64 tile] w (POut w (setP l rt side x y tile)) := by
  have hbw : Below w.heap.size w ((w.alloc (.cells #[.slice A l.length c] 25)).alloc (.cells #[.slice none 0 0, .int .i64 0, .int .i64 0] 32)) := ((Below.refl _ _).alloc (Nat.le_refl _) _).alloc (by simp) _
  have HT0 := Lib.hid (htab.below hbw)
  have hG := fun w h ht => pPoolGet_any A c l rt side w h hl hc hf ht
  have hT := getP_len l rt side
  have HS0 := Lib.hid (SB.made w A c l h)
  have HF := Lib.hid hf
  clear h hbw htab hf
  by_cases hC : (getP l rt side).1 = 0
  · obtain ⟨hr, hs, h1, h2, h3⟩ := getP_ok hC
    have HGR := Lib.hid (getP_right hC)
    have hIn := fun w => pPlace_any side x y w hs hx hy
    have hTi := pTile_any tile
    clear hx hy
    cases hi : gridIn side x y
    · have HE : Hid (setP l rt side x y tile = (8, 0, [])) := by show _ = _; simp [setP, hC, hi]
      rw [HE.out]
      rw [hi] at hIn
      clear HE HGR
      generalize getP l rt side = RES at *
      obtain ⟨C, S, T⟩ := RES
      simp only at hG hT hC h1 h2 ⊢
      subst hC h1
      clear h2
      go_enter Tryd.func11, Tryd.ntmps11
      go_wp2_with fail
      refine (hG _ HS0.out.p.rn HT0.out).mono ?_
      rintro e w1 ⟨A1, c1, rfl, ho1, hb1⟩
      have HS1 := Lib.hid ((HS0.out.below hb1).below ((Below.refl _ _).alloc (Nat.le_refl _) (.cells #[.int .i64 S, .slice A1 T.length c1, .int .i64 0] 37)))
      clear hb1 ho1
      go_wp2_with fail
      refine (hIn _).mono ?_
      rintro e w2 ⟨rfl, rfl⟩
      obtain ⟨_, c0, c1', c2, f0, f1, f2, hz4⟩ := HS1.out
      go_wp2
      refine bodyPost_ret (v := .agg #[.slice none 0 0, .int .i64 0, .int .i64 8]) (by simp [results, Tryd.results11, go_sem, c0, c1', c2]) rfl ⟨none, 0, rfl, OwnN.nil _ _, ?_⟩
      exact ((HS1.out.p.bel.setCell (by simp) _).setCell (by simp) _).setCell (by simp) _
    · cases ht : tileOk tile
      · have HE : Hid (setP l rt side x y tile = (1, 0, [])) := by show _ = _; simp [setP, hC, hi, ht]
        rw [HE.out]
        rw [hi] at hIn
        rw [ht] at hTi
        clear HE HGR
        generalize getP l rt side = RES at *
        obtain ⟨C, S, T⟩ := RES
        simp only at hG hT hC h1 h2 ⊢
        subst hC h1
        clear h2
        go_enter Tryd.func11, Tryd.ntmps11
        go_wp2_with fail
        refine (hG _ HS0.out.p.rn HT0.out).mono ?_
        rintro e w1 ⟨A1, c1, rfl, ho1, hb1⟩
        have HS1 := Lib.hid ((HS0.out.below hb1).below ((Below.refl _ _).alloc (Nat.le_refl _) (.cells #[.int .i64 S, .slice A1 T.length c1, .int .i64 0] 37)))
        clear hb1 ho1
        go_wp2_with fail
        refine (hIn _).mono ?_
        rintro e w2 ⟨rfl, rfl⟩
        go_wp2_with fail
        refine (hTi _).mono ?_
        rintro e w3 ⟨rfl, rfl⟩
        obtain ⟨_, c0, c1', c2, f0, f1, f2, hz4⟩ := HS1.out
        go_wp2
        refine bodyPost_ret (v := .agg #[.slice none 0 0, .int .i64 0, .int .i64 1]) (by simp [results, Tryd.results11, go_sem, c0, c1', c2]) rfl ⟨none, 0, rfl, OwnN.nil _ _, ?_⟩
        exact ((HS1.out.p.bel.setCell (by simp) _).setCell (by simp) _).setCell (by simp) _
      · have HE : Hid (setP l rt side x y tile = putP l side ((getP l rt side).2.2.set (y * side + x).toNat tile)) := by show _ = _; rw [putP_R hr (set_right' HGR.out ht)]; simp [setP, hC, hi, ht]
        rw [HE.out]
        obtain ⟨j, hj, hjl, hw1, hw2⟩ := got_place hs h2 hi
        rw [hj] at hw2
        rw [hj, Int.toNat_natCast]
        have HJ := Lib.hid hj
        rw [hi] at hIn
        rw [ht] at hTi
        clear HE hi ht HGR
        generalize getP l rt side = RES at *
        obtain ⟨C, S, T⟩ := RES
        simp only at hG hT hC h1 h2 ⊢
        subst hC h1
        have HL2 := Lib.hid h2
        clear h2
        go_enter Tryd.func11, Tryd.ntmps11
        go_wp2_with fail
        refine (hG _ HS0.out.p.rn HT0.out).mono ?_
        rintro e w1 ⟨A1, c1, rfl, ho1, hb1⟩
        have HS1 := Lib.hid ((HS0.out.below hb1).below ((Below.refl _ _).alloc (Nat.le_refl _) (.cells #[.int .i64 S, .slice A1 T.length c1, .int .i64 0] 37)))
        obtain ⟨g, rfl, hg1, hg2, _, _⟩ := ho1.at_ hjl
        have hg1' : w.heap.size + 1 + 1 ≤ g := by simpa using hg1
        have k0 : (w1.alloc (.cells #[.int .i64 S, .slice (some ⟨g, 0, none⟩) T.length c1, .int .i64 0] 37)).cell? ⟨w1.heap.size, 0, none⟩ = some (.int .i64 S) := by simp [go_sem]
        have k1 : (w1.alloc (.cells #[.int .i64 S, .slice (some ⟨g, 0, none⟩) T.length c1, .int .i64 0] 37)).cell? ⟨w1.heap.size, 1, none⟩ = some (.slice (some ⟨g, 0, none⟩) T.length c1) := by simp [go_sem]
        have k2 : (w1.alloc (.cells #[.int .i64 S, .slice (some ⟨g, 0, none⟩) T.length c1, .int .i64 0] 37)).cell? ⟨w1.heap.size, 2, none⟩ = some (.int .i64 0) := by simp [go_sem]
        have ho2 := ho1.keep ((Below.refl _ _).alloc (Nat.le_refl _) (.cells #[.int .i64 S, .slice (some ⟨g, 0, none⟩) T.length c1, .int .i64 0] 37))
        have HO3 := Lib.hid (ho2.store (j := j) tile).1
        obtain ⟨g', e', _, _, hcj, hfj⟩ := ho2.at_ hjl
        cases e'
        have hz2 : w1.heap.size < (w1.alloc (.cells #[.int .i64 S, .slice (some ⟨g, 0, none⟩) T.length c1, .int .i64 0] 37)).heap.size := by simp
        clear hb1 ho1 ho2 hg1
        go_wp2_with fail
        generalize w1.alloc (.cells #[.int .i64 S, .slice (some ⟨g, 0, none⟩) T.length c1, .int .i64 0] 37) = w2 at *
        refine (hIn _).mono ?_
        rintro e w3 ⟨rfl, rfl⟩
        go_wp2_with fail
        refine (hTi _).mono ?_
        rintro e w3 ⟨rfl, rfl⟩
        have hb3 : Below (w.heap.size + 1 + 1) w2 (w2.setCell ⟨g, j, none⟩ (.int .i64 tile)) := (Below.refl _ _).setCell hg1' _
        have HS3 := Lib.hid (HS1.out.step hb3)
        clear hb3
        have p0 := HS1.out.p.c0
        have n1 : g ≠ w.heap.size := by omega
        have n2 : w.heap.size ≠ g := by omega
        have n3 : g ≠ w1.heap.size := by omega
        have n4 : w1.heap.size ≠ g := by omega
        go_wp2_with fail
        have h200 := pool_len hr
        rcases HS3.out.p.rn with hnil | ⟨b, off, rfl, hbl, hn⟩
        · exact absurd hnil h3
        have hPut := pPoolPut_any b off c c1 l S (some ⟨g, 0, none⟩) (T.set j tile) _ ⟨hbl, hn⟩ (by omega) HO3.out.ri (by rw [List.length_set]; omega) hc HF.out
        rw [List.length_set] at hPut
        refine hPut.mono ?_
        rintro e w4 ⟨A4, c4, rfl, ho4, hb4⟩
        have HS4 := Lib.hid (HS3.out.below hb4)
        have HO4 := Lib.hid (OwnN.lower (base' := w.heap.size + 1 + 1) HS3.out.siz ho4)
        obtain ⟨_, c0, c1', c2, f0, f1, f2, hz4⟩ := HS4.out
        clear hb4 ho4 hPut n1 n2 n3 n4 p0 k0 k1 k2 hcj hfj
        generalize putP l S (T.set j tile) = R at *
        obtain ⟨rc, rr, rl⟩ := R
        simp only at HO4
        go_wp2_with fail
        refine bodyPost_ret (v := .agg #[.slice A4 rl.length c4, .int .i64 rr, .int .i64 rc]) (by simp [results, Tryd.results11, go_sem, c0, c1', c2]) rfl ⟨A4, c4, rfl, ?_, ?_⟩
        · exact OwnN.lower (base := w.heap.size + 1 + 1) (by omega) (OwnN.set_below (by show w.heap.size + 1 < _; omega) _ (OwnN.set_below (by show w.heap.size + 1 < _; omega) _ (OwnN.set_below (by show w.heap.size + 1 < _; omega) _ HO4.out)))
        · exact ((HS4.out.p.bel.setCell (by simp) _).setCell (by simp) _).setCell (by simp) _
  · have HE : Hid (setP l rt side x y tile = ((getP l rt side).1, 0, [])) := by show _ = _; simp [setP, hC]
    rw [HE.out]
    clear HE hx hy
    generalize getP l rt side = RES at *
    obtain ⟨C, S, T⟩ := RES
    simp only at hG hT hC ⊢
    have hq : (C != 0) = true := by simpa using hC
    clear hC
    go_enter Tryd.func11, Tryd.ntmps11
    go_wp2_with fail
    refine (hG _ HS0.out.p.rn HT0.out).mono ?_
    rintro e w1 ⟨A1, c1, rfl, ho1, hb1⟩
    have HS1 := Lib.hid ((HS0.out.below hb1).below ((Below.refl _ _).alloc (Nat.le_refl _) (.cells #[.int .i64 S, .slice A1 T.length c1, .int .i64 C] 37)))
    obtain ⟨_, c0, c1', c2, f0, f1, f2, hz4⟩ := HS1.out
    clear hb1 ho1
    go_wp2
    refine bodyPost_ret (v := .agg #[.slice none 0 0, .int .i64 0, .int .i64 C]) (by simp [results, Tryd.results11, go_sem, c0, c1', c2]) rfl ⟨none, 0, rfl, OwnN.nil _ _, ?_⟩
    exact ((HS1.out.p.bel.setCell (by simp) _).setCell (by simp) _).setCell (by simp) _
end Go.Proofs.YtoobkajilbmdhaaDoor

namespace Go.Proofs.YtoobkajilbmdhaaDoor
open Go.RowKit
set_option linter.unusedVariables false
set_option linter.unusedSimpArgs false

theorem pCloneN_nil (w : World) :
    Calls Tryd.prog 87 #[.slice none 0 0] w fun e w' => e = .returned (.slice none 0 0) ∧ Below w.heap.size w w' := by
  have hq : ∀ (w : World) (a : Option Addr) (n c n' c' : Nat), (binOp .eql 23 (.slice a n c) (.slice none n' c')).run Tryd.prog w = .ok (.bool a.isNone) w := fun w a n c n' c' => Lib.run_eql_slice_nil w _ _ a n c n' c' Tryd.underlying23
  go_enter Tryd.func87, Tryd.ntmps87
  go_wp2_with fail
  go_ret
  exact ⟨rfl, Below.refl _ _⟩
set_option maxRecDepth 100000 in
set_option maxHeartbeats 1000000 in
theorem pShelfOf_nil (w : World) :
    Calls Tryd.prog 44 #[.agg #[.slice none 0 0]] w fun e w' => ∃ p m v, e = .returned (.pointer (some ⟨p, 0, none⟩)) ∧ SS w.heap.size p m v [] w' ∧ Below w.heap.size w w' := by
  have hb0 : Below w.heap.size w (w.alloc (.cells #[.slice none 0 0] 25)) := (Below.refl _ _).alloc (Nat.le_refl _) _
  have hCl := pCloneN_nil (w.alloc (.cells #[.slice none 0 0] 25))
  have hmm := @run_makeMap Tryd.prog
  go_enter Tryd.func44, Tryd.ntmps44
  go_wp2_with fail
  refine hCl.mono ?_
  rintro e w1 ⟨rfl, hb1⟩
  have HB1 := Lib.hid (hb0.trans (hb1.mono hb0.size))
  have hz1 : w.heap.size < w1.heap.size := by have := hb1.size; simp at this; omega
  clear hCl hb1 hb0
  go_wp2_with fail
  have hbz : Below w1.heap.size w1 ((w1.alloc (.map #[] 0)).alloc (.cells #[.slice none 0 0, .map (some w1.heap.size)] 76)) := ((Below.refl _ _).alloc (Nat.le_refl _) _).alloc (by simp) _
  have HSK : Hid (SK w.heap.size (w1.heap.size + 1) w1.heap.size (.slice none 0 0) [] ([].take 0) ((w1.alloc (.map #[] 0)).alloc (.cells #[.slice none 0 0, .map (some w1.heap.size)] 76))) :=
    SK.mk (PS.mk (by simp [go_sem]) (by simp [go_sem]) (OwnN.nil _ _) (by omega) (by simp) (by simp [Value.ownBlock])) (by simp [go_sem]) ((MapI.made w1).keep (by rw [Below.heap_alloc _ _ _ (by simp)])) (by omega) (by omega) (by simp [Value.ownBlock])
  have HBZ := Lib.hid (HB1.out.trans (hbz.mono (Nat.le_of_lt hz1)))
  clear hbz HB1
  generalize hP : w1.heap.size + 1 = p at *
  generalize hM : w1.heap.size = m at *
  generalize (w1.alloc (.map #[] 0)).alloc (.cells #[.slice none 0 0, .map (some m)] 76) = W1 at *
  clear hP hM hmm
  go_loopw [17] (fun i wr => i = .int .i64 0 ∧ SK w.heap.size p m (.slice none 0 0) [] ([].take 0) wr ∧ Below w.heap.size w wr) (fun i _ => 0)
  case atStart => exact ⟨rfl, HSK.out, HBZ.out⟩
  case round =>
    obtain ⟨rfl, hsk, hb⟩ := hrel
    have HS := Lib.hid hsk
    have HB := Lib.hid hb
    clear HSK HBZ hb hsk
    go_wp2_with fail
    go_ret
    exact ⟨p, m, _, rfl, ⟨HS.out.ps, HS.out.c1, HS.out.map, HS.out.hm, HS.out.nm, HS.out.nr⟩, HB.out⟩
set_option maxRecDepth 100000 in
set_option maxHeartbeats 2000000 in
theorem pPoolPut_nil (cg : Nat) (side : Int) (A' : Option Addr) (tiles : List Int) (w : World) (hri : RI w w.heap.size A' tiles) (htl : tiles.length ≤ 1048576) :
    Calls Tryd.prog 7 #[.agg #[.slice none 0 0], .agg #[.int .i64 side, .slice A' tiles.length cg]] w (POut w (putP [] side tiles)) := by
  have HRI := Lib.hid hri
  have HB0 := Lib.hid (BY.made w (.slice none 0 0) side (.slice A' tiles.length cg))
  have hPR := fun w h => pPoolRight_any none 0 [] w h (by simp) (by simp) (fun n hn => by cases hn)
  have hGR := fun w h => pRight_any side A' cg tiles w h (by omega)
  clear hri
  have hsz0 := HB0.out.siz
  cases hr : poolRight []
  · rw [hr] at hPR
    have HR : Hid (putP [] side tiles = (1, 0, [])) := by show _ = _; simp [putP, hr]
    clear hr
    go_enter Tryd.func7, Tryd.ntmps7
    go_wp2_with fail
    refine (hPR _ (.inl rfl)).mono ?_
    rintro e w1 ⟨rfl, hb1⟩
    have HB1 := Lib.hid (HB0.out.step (hb1.mono hsz0))
    obtain ⟨p0, g0, g1, r0, r1, r2, f0, f1, f2, hz1, _⟩ := HB1.out
    clear hb1
    have HB4 := HB1
    have hz4 := hz1
    go_wp2_with fail
    rw [HR.out]
    refine bodyPost_ret (v := .agg #[.slice none 0 0, .int .i64 0, .int .i64 1]) (by simp [results, Tryd.results7, go_sem, r0, r1, r2]) rfl ⟨none, 0, rfl, OwnN.nil _ _, ?_⟩
    exact ((HB4.out.bel.setCell (by simp; omega) _).setCell (by simp; omega) _).setCell (by simp; omega) _
  · rw [hr] at hPR
    have h200 := pool_len hr
    cases hg : gridRight side tiles
    · rw [hg] at hGR
      have HR : Hid (putP [] side tiles = (1, 0, [])) := by show _ = _; simp [putP, hg]
      clear hr hg
      go_enter Tryd.func7, Tryd.ntmps7
      go_wp2_with fail
      refine (hPR _ (.inl rfl)).mono ?_
      rintro e w1 ⟨rfl, hb1⟩
      have HB1 := Lib.hid (HB0.out.step (hb1.mono hsz0))
      obtain ⟨p0, g0, g1, r0, r1, r2, f0, f1, f2, hz1, _⟩ := HB1.out
      clear hb1
      go_wp2_with fail
      refine (hGR _ ((HRI.out.below HB1.out.bel).mono HB1.out.bel.size)).mono ?_
      rintro e w2 ⟨rfl, hb2⟩
      have HB2 := Lib.hid (HB1.out.step (hb2.mono HB1.out.siz))
      clear hb2 p0 g0 g1 r0 r1 r2 f0 f1 f2
      have HB4 := HB2
      obtain ⟨p0, g0, g1, r0, r1, r2, f0, f1, f2, hz4, _⟩ := HB4.out
      go_wp2_with fail
      rw [HR.out]
      refine bodyPost_ret (v := .agg #[.slice none 0 0, .int .i64 0, .int .i64 1]) (by simp [results, Tryd.results7, go_sem, r0, r1, r2]) rfl ⟨none, 0, rfl, OwnN.nil _ _, ?_⟩
      exact ((HB4.out.bel.setCell (by simp; omega) _).setCell (by simp; omega) _).setCell (by simp; omega) _
    · rw [hg] at hGR
      obtain ⟨sn, rfl, hs1, hs8, hln⟩ := right_nat hg
      have HSO := Lib.hid (right_parts hg).1
      have HLN := Lib.hid hln
      have HR : Hid (putP [] sn tiles = putR [] sn tiles) := by show _ = _; simp [putP, putR, hg, hr]
      have HTT : Hid (∀ t ∈ tiles, 0 ≤ t ∧ t ≤ 9) := by
        intro t ht
        obtain ⟨j, hj, rfl⟩ := List.getElem_of_mem ht
        exact (right_parts hg).2.2 j hj
      have HPR := Lib.hid hr
      clear hr hg hln
      go_enter Tryd.func7, Tryd.ntmps7
      go_wp2_with fail
      refine (hPR _ (.inl rfl)).mono ?_
      rintro e w1 ⟨rfl, hb1⟩
      have HB1 := Lib.hid (HB0.out.step (hb1.mono hsz0))
      obtain ⟨p0, g0, g1, r0, r1, r2, f0, f1, f2, hz1, _⟩ := HB1.out
      clear hb1
      go_wp2_with fail
      refine (hGR _ ((HRI.out.below HB1.out.bel).mono HB1.out.bel.size)).mono ?_
      rintro e w2 ⟨rfl, hb2⟩
      have HB2 := Lib.hid (HB1.out.step (hb2.mono HB1.out.siz))
      clear hb2 p0 g0 g1 r0 r1 r2 f0 f1 f2
      obtain ⟨p0, g0, g1, r0, r1, r2, f0, f1, f2, hz2, _⟩ := HB2.out
      have hSh := pShelfOf_nil w2
      go_wp2_with fail
      refine hSh.mono ?_
      rintro e w3 ⟨sp, sm, v3, rfl, hs3, hb3⟩
      have HB3 := Lib.hid (HB2.out.step (hb3.mono HB2.out.siz))
      have HS3 := Lib.hid hs3
      clear hs3 hb3 p0 g0 g1 r0 r1 r2 f0 f1 f2 hSh
      obtain ⟨p0, g0, g1, r0, r1, r2, f0, f1, f2, hz3, _⟩ := HB3.out
      have hPG := pPutGrid_any sn tiles HSO.out HLN.out HTT.out w2.heap.size sp sm cg v3 [] A' w3 HS3.out ((HRI.out.below HB3.out.bel).mono (by omega)) (by omega)
      go_wp2_with fail
      refine hPG.mono ?_
      rintro e w4 ⟨rfl, v4, hs4, hg4⟩
      have HB4 := Lib.hid (HB3.out.step ((HS3.out.base hg4).mono HB2.out.siz))
      have HS4 := Lib.hid hs4
      have HRR : Hid (putR [] sn tiles = if (GridPut sn tiles []).1.length ≤ 200 then ((0, ((GridPut sn tiles []).2 : Int), (GridPut sn tiles []).1) : Int × Int × List Nd) else (9, 0, [])) := by exact (rfl : putR [] sn tiles = _)
      clear hPG hs4 hg4 p0 g0 g1 r0 r1 r2 f0 f1 f2
      generalize GridPut sn tiles [] = R at *
      obtain ⟨l4, r4⟩ := R
      simp only at HS4 HRR
      obtain ⟨A4, c4, rfl⟩ := HS4.out.ps.own.form
      have k0 := HS4.out.ps.c0
      obtain ⟨p0, g0, g1, r0, r1, r2, f0, f1, f2, hz4, _⟩ := HB4.out
      by_cases h2 : l4.length ≤ 200
      · have hd : decide ((200 : Int) < (l4.length : Int)) = false := by simp; omega
        rw [if_pos h2] at HRR
        have hTF := pTooFull_any sp l4.length c4 A4 w4 k0
        rw [hd] at hTF
        go_wp2_with fail
        refine hTF.mono ?_
        rintro e w5 ⟨rfl, rfl⟩
        clear hTF
        go_wp2_with fail
        rw [HR.out, HRR.out]
        refine bodyPost_ret (v := .agg #[.slice A4 l4.length c4, .int .i64 r4, .int .i64 0]) (by simp [results, Tryd.results7, go_sem, r0, r1, r2]) rfl ⟨A4, c4, rfl, ?_, ?_⟩
        · exact OwnN.lower (base := w2.heap.size) (by omega) (OwnN.set_below (by show w.heap.size + 1 + 1 < _; omega) _ (OwnN.set_below (by show w.heap.size + 1 + 1 < _; omega) _ (OwnN.set_below (by show w.heap.size + 1 + 1 < _; omega) _ HS4.out.ps.own)))
        · exact ((HB4.out.bel.setCell (by simp; omega) _).setCell (by simp; omega) _).setCell (by simp; omega) _
      · have hd : decide ((200 : Int) < (l4.length : Int)) = true := by simp; omega
        rw [if_neg h2] at HRR
        have hTF := pTooFull_any sp l4.length c4 A4 w4 k0
        rw [hd] at hTF
        go_wp2_with fail
        refine hTF.mono ?_
        rintro e w5 ⟨rfl, rfl⟩
        clear hTF
        go_wp2_with fail
        rw [HR.out, HRR.out]
        refine bodyPost_ret (v := .agg #[.slice none 0 0, .int .i64 0, .int .i64 9]) (by simp [results, Tryd.results7, go_sem, r0, r1, r2]) rfl ⟨none, 0, rfl, OwnN.nil _ _, ?_⟩
        exact ((HB4.out.bel.setCell (by simp; omega) _).setCell (by simp; omega) _).setCell (by simp; omega) _
end Go.Proofs.YtoobkajilbmdhaaDoor

namespace Go.Proofs.YtoobkajilbmdhaaDoor
open Go.RowKit
set_option linter.unusedVariables false
set_option linter.unusedSimpArgs false

/-- Where a pool's row lies: nowhere, or at the beginning of a block. -/
def Rn (A : Option Addr) (c : Nat) (l : List Nd) (n : Nat) : Prop := l.length ≤ c ∧ ((A = none ∧ c = 0 ∧ l = []) ∨ ∃ b, A = some ⟨b, 0, none⟩ ∧ b < n)
theorem Rn.mono {A : Option Addr} {c : Nat} {l : List Nd} {n m : Nat} (h : Rn A c l n) (hn : n ≤ m) : Rn A c l m := ⟨h.1, h.2.elim .inl fun ⟨b, e, hb⟩ => .inr ⟨b, e, Nat.lt_of_lt_of_le hb hn⟩⟩
theorem OwnN.rnn {w : World} {base c : Nat} {A : Option Addr} {l : List Nd} (h : OwnN w base (.slice A l.length c) l) : Rn A c l w.heap.size := ⟨h.cap, h.rw⟩
theorem RN.nat {w : World} {b : Nat} {l : List Nd} (h : RN w w.heap.size (some ⟨b, 0, none⟩) l) (hb : b < w.heap.size) : NAt w b 0 l :=
  ⟨hb, fun j hj => by
    obtain ⟨b1, o1, e, _, hc⟩ := h.at_ hj
    cases e
    exact hc⟩
theorem mPoolPut_rd (A : Option Addr) (c cg : Nat) (l : List Nd) (side : Int) (A' : Option Addr) (tiles : List Int) (w : World) (hr : Rn A c l w.heap.size) (h : RN w w.heap.size A l) (hl : l.length ≤ 1048576) (hri : RI w w.heap.size A' tiles) (htl : tiles.length ≤ 1048576) :
    Calls Tryd.prog 16 #[.agg #[.slice A l.length c], .agg #[.int .i64 side, .slice A' tiles.length cg]] w (POut w (putP l side tiles)) := by
  rcases hr.2 with ⟨rfl, rfl, rfl⟩ | ⟨b, rfl, hb⟩
  · exact mPoolPut_nil cg side A' tiles w hri htl
  · exact mPoolPut_any b 0 c cg l side A' tiles w (h.nat hb) hl hri htl
theorem pPoolPut_rd (A : Option Addr) (c cg : Nat) (l : List Nd) (side : Int) (A' : Option Addr) (tiles : List Int) (w : World) (hr : Rn A c l w.heap.size) (h : RN w w.heap.size A l) (hl : l.length ≤ 1048576) (hri : RI w w.heap.size A' tiles) (htl : tiles.length ≤ 1048576) (hf : ∀ n ∈ l, n.Fits) :
    Calls Tryd.prog 7 #[.agg #[.slice A l.length c], .agg #[.int .i64 side, .slice A' tiles.length cg]] w (POut w (putP l side tiles)) := by
  rcases hr.2 with ⟨rfl, rfl, rfl⟩ | ⟨b, rfl, hb⟩
  · exact pPoolPut_nil cg side A' tiles w hri htl
  · exact pPoolPut_any b 0 c cg l side A' tiles w (h.nat hb) hl hri htl hr.1 hf

/-- Block b holds a pool that can be read. -/
structure Qm (b : Nat) (A : Option Addr) (c : Nat) (l : List Nd) (wr : World) : Prop where
  c0 : wr.cell? ⟨b, 0, none⟩ = some (.slice A l.length c)
  lt : b < wr.heap.size
  rn : RN wr wr.heap.size A l
  rw : Rn A c l wr.heap.size
theorem Qm.on {b c : Nat} {A : Option Addr} {l : List Nd} {w w' : World} (h : Qm b A c l w) (hb : Below w.heap.size w w') : Qm b A c l w' :=
  ⟨(hb.cell (p := ⟨b, 0, none⟩) h.lt).trans h.c0, Nat.lt_of_lt_of_le h.lt hb.size, h.rn.go hb, h.rw.mono hb.size⟩
theorem Qm.made {c : Nat} {A : Option Addr} {l : List Nd} {w : World} (t : TypeId) (h : RN w w.heap.size A l) (k : Rn A c l w.heap.size) : Qm w.heap.size A c l (w.alloc (.cells #[.slice A l.length c] t)) :=
  ⟨by simp [go_sem], by simp, h.go ((Below.refl _ _).alloc (Nat.le_refl _) _), k.mono (by simp)⟩
/-- Block b holds what PoolPut and PoolSet hand back. -/
structure Om (b : Nat) (A : Option Addr) (c : Nat) (l : List Nd) (rt code : Int) (wr : World) : Prop where
  c0 : wr.cell? ⟨b, 0, none⟩ = some (.slice A l.length c)
  c1 : wr.cell? ⟨b, 1, none⟩ = some (.int .i64 rt)
  c2 : wr.cell? ⟨b, 2, none⟩ = some (.int .i64 code)
  lt : b < wr.heap.size
  rn : RN wr wr.heap.size A l
  rw : Rn A c l wr.heap.size
theorem Om.on {b c : Nat} {A : Option Addr} {l : List Nd} {rt code : Int} {w w' : World} (h : Om b A c l rt code w) (hb : Below w.heap.size w w') : Om b A c l rt code w' :=
  ⟨(hb.cell (p := ⟨b, 0, none⟩) h.lt).trans h.c0, (hb.cell (p := ⟨b, 1, none⟩) h.lt).trans h.c1, (hb.cell (p := ⟨b, 2, none⟩) h.lt).trans h.c2, Nat.lt_of_lt_of_le h.lt hb.size, h.rn.go hb, h.rw.mono hb.size⟩
theorem Om.made {c : Nat} {A : Option Addr} {l : List Nd} {rt code : Int} {w : World} (t : TypeId) (h : RN w w.heap.size A l) (k : Rn A c l w.heap.size) : Om w.heap.size A c l rt code (w.alloc (.cells #[.slice A l.length c, .int .i64 rt, .int .i64 code] t)) :=
  ⟨by simp [go_sem], by simp [go_sem], by simp [go_sem], by simp, h.go ((Below.refl _ _).alloc (Nat.le_refl _) _), k.mono (by simp)⟩
theorem RI.go {w w' : World} {A : Option Addr} {l : List Int} (h : RI w w.heap.size A l) (hb : Below w.heap.size w w') : RI w' w'.heap.size A l := (h.below hb).mono hb.size
/-- Block b holds a map that can be read. -/
structure Gm (b : Nat) (side : Int) (A : Option Addr) (c : Nat) (l : List Int) (wr : World) : Prop where
  c0 : wr.cell? ⟨b, 0, none⟩ = some (.int .i64 side)
  c1 : wr.cell? ⟨b, 1, none⟩ = some (.slice A l.length c)
  lt : b < wr.heap.size
  ri : RI wr wr.heap.size A l
theorem Gm.on {b : Nat} {side : Int} {A : Option Addr} {c : Nat} {l : List Int} {w w' : World} (h : Gm b side A c l w) (hb : Below w.heap.size w w') : Gm b side A c l w' :=
  ⟨(hb.cell (p := ⟨b, 0, none⟩) h.lt).trans h.c0, (hb.cell (p := ⟨b, 1, none⟩) h.lt).trans h.c1, Nat.lt_of_lt_of_le h.lt hb.size, h.ri.go hb⟩
theorem Gm.made {side : Int} {A : Option Addr} {c : Nat} {l : List Int} {w : World} (t : TypeId) (h : RI w w.heap.size A l) : Gm w.heap.size side A c l (w.alloc (.cells #[.int .i64 side, .slice A l.length c] t)) :=
  ⟨by simp [go_sem], by simp [go_sem], by simp, h.go ((Below.refl _ _).alloc (Nat.le_refl _) _)⟩
/-- Block b holds what PoolGet hands back. -/
structure Hm (b : Nat) (side : Int) (A : Option Addr) (c : Nat) (l : List Int) (code : Int) (wr : World) : Prop where
  c0 : wr.cell? ⟨b, 0, none⟩ = some (.int .i64 side)
  c1 : wr.cell? ⟨b, 1, none⟩ = some (.slice A l.length c)
  c2 : wr.cell? ⟨b, 2, none⟩ = some (.int .i64 code)
  lt : b < wr.heap.size
  ri : RI wr wr.heap.size A l
theorem Hm.on {b : Nat} {side code : Int} {A : Option Addr} {c : Nat} {l : List Int} {w w' : World} (h : Hm b side A c l code w) (hb : Below w.heap.size w w') : Hm b side A c l code w' :=
  ⟨(hb.cell (p := ⟨b, 0, none⟩) h.lt).trans h.c0, (hb.cell (p := ⟨b, 1, none⟩) h.lt).trans h.c1, (hb.cell (p := ⟨b, 2, none⟩) h.lt).trans h.c2, Nat.lt_of_lt_of_le h.lt hb.size, h.ri.go hb⟩
theorem Hm.made {side code : Int} {A : Option Addr} {c : Nat} {l : List Int} {w : World} (t : TypeId) (h : RI w w.heap.size A l) : Hm w.heap.size side A c l code (w.alloc (.cells #[.int .i64 side, .slice A l.length c, .int .i64 code] t)) :=
  ⟨by simp [go_sem], by simp [go_sem], by simp [go_sem], by simp, h.go ((Below.refl _ _).alloc (Nat.le_refl _) _)⟩
/-- What stays true while only new memory is made. -/
def Kep (P : World → Prop) : Prop := ∀ w w', Below w.heap.size w w' → P w → P w'
theorem belowA (w : World) (o : Obj) : Below w.heap.size w (w.alloc o) := (Below.refl _ _).alloc (Nat.le_refl _) _
theorem belowD (w : World) : Below w.heap.size w w.drew := (Below.refl _ _).drew
theorem belowN (w : World) (n : Nat) : Below w.heap.size w (w.drewN n) := ⟨rfl, rfl, rfl, Nat.le_refl _, fun _ _ => rfl⟩
theorem bAnd {a b c : World} (h : Below a.heap.size a b) (k : Below b.heap.size b c) : Below a.heap.size a c := h.trans (k.mono h.size)
theorem bytes_more {w w' : World} {A : Option Addr} {n : Nat} (h : BytesIn w w.heap.size A n) (hb : Below w.heap.size w w') : BytesIn w' w'.heap.size A n := by
  rcases h with h | ⟨b, off, rfl, hbl, hc⟩
  · exact .inl h
  · exact .inr ⟨b, off, rfl, Nat.lt_of_lt_of_le hbl hb.size, fun j hj => by
      obtain ⟨v, h1, h2⟩ := hc j hj
      exact ⟨v, h1, (hb.cell (p := ⟨b, off + j, none⟩) hbl).trans h2⟩⟩
end Go.Proofs.YtoobkajilbmdhaaDoor

namespace Go.Proofs.YtoobkajilbmdhaaDoor
open Go.RowKit
set_option linter.unusedVariables false
set_option linter.unusedSimpArgs false

theorem field_got (a b c : Value) (w : World) : (Instr.field 37 (.agg #[a, b, c]) 0).run Tryd.prog w = .ok (.agg #[a, b]) w := by kernel_rfl
/-- Beside a code stands the zero map. -/
theorem getP_zero {l : List Nd} {rt side : Int} (h : (getP l rt side).1 ≠ 0) : (getP l rt side).2.1 = 0 ∧ (getP l rt side).2.2 = [] := by
  unfold getP at h ⊢
  split
  · next hr =>
    rw [if_pos hr] at h
    unfold getG at h ⊢
    split
    · next h1 =>
      rw [if_pos h1] at h
      split
      · next h2 => rw [if_pos h2] at h; exact absurd rfl h
      · exact ⟨rfl, rfl⟩
    · exact ⟨rfl, rfl⟩
  · exact ⟨rfl, rfl⟩
theorem atP_eq (l : List Nd) (rt side x y : Int) : tileAt (getP l rt side).2.1 (getP l rt side).2.2 x y = atP l rt side x y := by
  unfold atP
  by_cases h : (getP l rt side).1 = 0
  · rw [if_pos h]
  · rw [if_neg h, (getP_zero h).1, (getP_zero h).2]
    have : gridRight 0 [] = false := by decide
    simp [tileAt, this]

set_option maxRecDepth 100000 in
set_option maxHeartbeats 1000000 in
theorem pPoolAt_any (A : Option Addr) (c : Nat) (l : List Nd) (rt side x y : Int) (w : World) (h : RN w w.heap.size A l) (hl : l.length ≤ 1048576) (hc : l.length ≤ c) (hf : ∀ n ∈ l, n.Fits) (hx : In64 x) (hy : In64 y) (htab : HasTab w) :
    Calls Tryd.prog 20 #[.agg #[.slice A l.length c], .int .i64 rt, .int .i64 side, .int .i64 x, .int .i64 y] w fun e w' => e = .returned (.int .i64 (atP l rt side x y)) ∧ Below w.heap.size w w' := by
  have HP0 := Lib.hid (PB.made w A c l h)
  have HT0 := Lib.hid (htab.below ((Below.refl _ _).alloc (Nat.le_refl _) (.cells #[.slice A l.length c] 25)))
  have hG := fun w h ht => pPoolGet_any A c l rt side w h hl hc hf ht
  have hT := getP_len l rt side
  have HE := Lib.hid (atP_eq l rt side x y)
  rw [← HE.out]
  clear h HE hf htab
  generalize getP l rt side = RES at *
  obtain ⟨C, S, T⟩ := RES
  simp only at hG hT ⊢
  have hA := fun A' c' w h => pTileAt_any S x y A' c' T w h (by omega) hx hy
  have hfd := field_got
  clear hx hy
  go_enter Tryd.func20, Tryd.ntmps20
  go_wp2_with fail
  refine (hG _ HP0.out.rn HT0.out).mono ?_
  rintro e w1 ⟨A1, c1, rfl, ho1, hb1⟩
  have HP1 := Lib.hid (HP0.out.below hb1)
  have HO1 := Lib.hid ho1
  clear hb1 ho1 HP0 HT0
  go_wp2_with fail
  refine (hA A1 c1 _ HO1.out.ri).mono ?_
  rintro e w3 ⟨rfl, hb3⟩
  have HP3 := Lib.hid (HP1.out.below hb3)
  clear hb3
  go_wp2
  go_ret
  exact ⟨rfl, HP3.out.bel⟩
end Go.Proofs.YtoobkajilbmdhaaDoor
