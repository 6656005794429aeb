/- The model's ways: what a step costs; what is beside a place. -/
import Derived.Test.YtmjbefjkkncjlaaWyM
namespace Go.Proofs.Ytmjbefjkkncjlaa
open Go.RowKit
set_option linter.unusedVariables false
set_option linter.unusedSimpArgs false

theorem bel_A (w : World) (o : Obj) : Below w.heap.size w (w.alloc o) := (Below.refl _ _).alloc (Nat.le_refl _) _
theorem bel_D (w : World) : Below w.heap.size w w.drew := (Below.refl _ _).drew
theorem bel_T {a b c : World} (h : Below a.heap.size a b) (k : Below b.heap.size b c) : Below a.heap.size a c := h.trans (k.mono h.size)

set_option maxRecDepth 100000 in
set_option maxHeartbeats 1000000 in
theorem mStep5_any (side x y u v : Int) (A : Option Addr) (c : Nat) (l : List Int) (w : World) (h : RI w w.heap.size A l) (hr : gridRight side l = true) (ha : gridIn side x y = true) (hb : gridIn side u v = true) :
    Calls Try.prog 33 #[.agg #[.int .i64 side, .slice A l.length c], .agg #[.int .i64 x, .int .i64 y], .agg #[.int .i64 u, .int .i64 v]] w fun e w' => e = .returned (.int .i64 (cst l (pn side x y) (pn side u v))) ∧ Below w.heap.size w w' := by
  have hA1 := fun w => mAt5_any hr ha A l.length c w
  have hA2 := fun w => mAt5_any hr hb A l.length c w
  have hl1 := (pn_lt hr ha).1
  have hl2 := (pn_lt hr hb).1
  have ht1 := (right_parts hr).2.2 _ hl1
  have ht2 := (right_parts hr).2.2 _ hl2
  have HC : Hid (cst l (pn side x y) (pn side u v) = 1 + l[pn side x y] + l[pn side u v]) := by show _ = _; simp [cst, List.getD, hl1, hl2]
  rw [HC.out]
  obtain ⟨b, off, rfl, hbl, hc1⟩ := h.at_ hl1
  obtain ⟨b', off', e', _, hc2⟩ := h.at_ hl2
  cases e'
  clear HC h hr ha hb
  generalize l[pn side x y] = t1 at *
  generalize l[pn side u v] = t2 at *
  generalize pn side x y = j1 at *
  generalize pn side u v = j2 at *
  have HWR : Hid (IntKind.i64.wrap (IntKind.i64.wrap (1 + t1) + t2) = 1 + t1 + t2) := by
    have e1 : IntKind.i64.wrap (1 + t1) = 1 + t1 := IntWalk.i64_in _ (by omega)
    have e2 : IntKind.i64.wrap (1 + t1 + t2) = 1 + t1 + t2 := IntWalk.i64_in _ (by omega)
    show _ = _
    rw [e1, e2]
  have hj1 : (j1 : Int) < (l.length : Int) := by omega
  have hj2 : (j2 : Int) < (l.length : Int) := by omega
  obtain ⟨W, HW⟩ : ∃ W, W = (((w.alloc (.cells #[.int .i64 side, .slice (some ⟨b, off, none⟩) l.length c] 25)).alloc (.cells #[.int .i64 x, .int .i64 y] 27)).alloc (.cells #[.int .i64 u, .int .i64 v] 27)) := ⟨_, rfl⟩
  have hBW : Below w.heap.size w W := by rw [HW]; exact bel_T (bel_A _ _) (bel_T (bel_A _ _) (bel_A _ _))
  have hz : w.heap.size + 1 + 1 < W.heap.size := by rw [HW]; simp
  have k1 : W.cell? ⟨w.heap.size, 0, none⟩ = some (.int .i64 side) := by rw [HW]; simp [go_sem]
  have k2 : W.cell? ⟨w.heap.size, 1, none⟩ = some (.slice (some ⟨b, off, none⟩) l.length c) := by rw [HW]; simp [go_sem]
  have k3 : W.cell? ⟨w.heap.size + 1, 0, none⟩ = some (.int .i64 x) := by rw [HW]; simp [go_sem]
  have k4 : W.cell? ⟨w.heap.size + 1, 1, none⟩ = some (.int .i64 y) := by rw [HW]; simp [go_sem]
  have k5 : W.cell? ⟨w.heap.size + 1 + 1, 0, none⟩ = some (.int .i64 u) := by rw [HW]; simp [go_sem]
  have k6 : W.cell? ⟨w.heap.size + 1 + 1, 1, none⟩ = some (.int .i64 v) := by rw [HW]; simp [go_sem]
  have k7 : W.cell? ⟨b, off + j1, none⟩ = some (.int .i64 t1) := (hBW.cell (p := ⟨b, off + j1, none⟩) hbl).trans hc1
  have k8 : W.cell? ⟨b, off + j2, none⟩ = some (.int .i64 t2) := (hBW.cell (p := ⟨b, off + j2, none⟩) hbl).trans hc2
  have HS : Hid (∀ w', Below W.heap.size W w' → w'.cell? ⟨w.heap.size, 0, none⟩ = some (.int .i64 side) ∧ w'.cell? ⟨w.heap.size, 1, none⟩ = some (.slice (some ⟨b, off, none⟩) l.length c) ∧ w'.cell? ⟨w.heap.size + 1, 0, none⟩ = some (.int .i64 x) ∧ w'.cell? ⟨w.heap.size + 1, 1, none⟩ = some (.int .i64 y) ∧ w'.cell? ⟨w.heap.size + 1 + 1, 0, none⟩ = some (.int .i64 u) ∧ w'.cell? ⟨w.heap.size + 1 + 1, 1, none⟩ = some (.int .i64 v) ∧ w'.cell? ⟨b, off + j1, none⟩ = some (.int .i64 t1) ∧ w'.cell? ⟨b, off + j2, none⟩ = some (.int .i64 t2)) := by
    intro w' hb
    have hbz : b < W.heap.size := Nat.lt_of_lt_of_le hbl hBW.size
    have f := fun (p : Addr) (hp : p.block < W.heap.size) => hb.cell (p := p) hp
    exact ⟨(f ⟨_, 0, none⟩ (by show w.heap.size < _; omega)).trans k1, (f ⟨_, 1, none⟩ (by show w.heap.size < _; omega)).trans k2, (f ⟨_, 0, none⟩ (by show w.heap.size + 1 < _; omega)).trans k3, (f ⟨_, 1, none⟩ (by show w.heap.size + 1 < _; omega)).trans k4, (f ⟨_, 0, none⟩ hz).trans k5, (f ⟨_, 1, none⟩ hz).trans k6, (f ⟨_, off + j1, none⟩ hbz).trans k7, (f ⟨_, off + j2, none⟩ hbz).trans k8⟩
  have HB := Lib.hid hBW
  clear hc1 hc2 k3 k4 k5 k6 k7 k8 k1 k2 hBW hz hbl
  go_enter Try.func33, Try.ntmps33
  go_wp2_with fail
  rw [← HW]
  clear HW
  have q0 := bel_D W
  have hkeep := HS.out _ q0
  go_region_held3 (fun w' => w'.cell? ⟨w.heap.size, 0, none⟩ = some (.int .i64 side) ∧ w'.cell? ⟨w.heap.size, 1, none⟩ = some (.slice (some ⟨b, off, none⟩) l.length c) ∧ w'.cell? ⟨w.heap.size + 1, 0, none⟩ = some (.int .i64 x) ∧ w'.cell? ⟨w.heap.size + 1, 1, none⟩ = some (.int .i64 y) ∧ w'.cell? ⟨w.heap.size + 1 + 1, 0, none⟩ = some (.int .i64 u) ∧ w'.cell? ⟨w.heap.size + 1 + 1, 1, none⟩ = some (.int .i64 v) ∧ w'.cell? ⟨b, off + j1, none⟩ = some (.int .i64 t1) ∧ w'.cell? ⟨b, off + j2, none⟩ = some (.int .i64 t2))
    (first | (with_reducible exact hkeep) | go_keep)
    (first
      | (go_at_call 31; have _c := q1; clear _c; refine (hA2 v1).mono ?_; rintro e v2 ⟨rfl, hb⟩; clear hkeep; have q2 := bel_T q1 hb; have hkeep := HS.out _ q2; clear hb)
      | (go_at_call 31; refine (hA1 W.drew).mono ?_; rintro e v1 ⟨rfl, hb⟩; clear hkeep; have q1 := bel_T q0 hb; have hkeep := HS.out _ q1; clear hb))
  all_goals
    have Q2 := Lib.hid q2
    clear hkeep q2
    go_wp2
    go_ret
    exact ⟨ret_int HWR.out, bel_T HB.out Q2.out⟩
end Go.Proofs.Ytmjbefjkkncjlaa
