/- The program's pools: small calls; what a node may be. -/
import Derived.Test.YtoobkajilbmdhaaPgA
import Derived.Test.YtoobkajilbmdhaaHeightM
import Derived.Deep.RegionHeld3
import Derived.Deep.RegionWith
import Derived.ChangeKeysEq
namespace Go.Proofs.Ytoobkajilbmdhaa
open Go.RowKit

def qV (a b c d : Int) : Value := .agg #[.int .i64 a, .int .i64 b, .int .i64 c, .int .i64 d]
theorem NdAt.all {w : World} {b : Nat} {n : Nd} (h : NdAt w b 0 n) : w.cell? ⟨b, 0, none⟩ = some (.int .i64 n.tile) ∧ w.cell? ⟨b, 1, none⟩ = some (.int .i64 n.a) ∧ w.cell? ⟨b, 2, none⟩ = some (.int .i64 n.b) ∧ w.cell? ⟨b, 3, none⟩ = some (.int .i64 n.c) ∧ w.cell? ⟨b, 4, none⟩ = some (.int .i64 n.d) := by
  obtain ⟨e0, e1, e2, e3, e4⟩ := h
  simp only [Nat.zero_add] at e0 e1 e2 e3 e4
  exact ⟨e0, e1, e2, e3, e4⟩
def isSp (n : Nd) : Bool := n.tile == -1
set_option maxHeartbeats 400000 in
theorem pSplit_any (n : Nd) (w : World) :
    Calls Try.prog 55 #[n.val] w fun e w' => e = .returned (.bool (isSp n)) ∧ Below w.heap.size w w' := by
  unfold Nd.val
  go_enter Try.func55, Try.ntmps55
  go_wp2
  go_ret
  exact ⟨rfl, (Below.refl _ _).alloc (Nat.le_refl _) _⟩
set_option maxHeartbeats 400000 in
theorem pLeafOf_any (t : Int) (w : World) :
    Calls Try.prog 66 #[.int .i64 t] w fun e w' => e = .returned (.agg #[.int .i64 t, .int .i64 0, .int .i64 0, .int .i64 0, .int .i64 0]) ∧ Below w.heap.size w w' := by
  go_enter Try.func66, Try.ntmps66
  go_wp2
  refine bodyPost_ret (v := .agg #[.int .i64 t, .int .i64 0, .int .i64 0, .int .i64 0, .int .i64 0]) (by simp [results, Try.results66, go_sem]) rfl ⟨rfl, (Below.refl _ _).alloc (Nat.le_refl _) _⟩
set_option maxHeartbeats 400000 in
theorem pQuarters_any (n : Nd) (w : World) :
    Calls Try.prog 56 #[n.val] w fun e w' => e = .returned (qV n.a n.b n.c n.d) ∧ Below w.heap.size w w' := by
  unfold Nd.val qV
  go_enter Try.func56, Try.ntmps56
  go_wp2
  refine bodyPost_ret (v := .agg #[.int .i64 n.a, .int .i64 n.b, .int .i64 n.c, .int .i64 n.d]) (by simp [results, Try.results56, go_sem]) rfl ⟨rfl, ((Below.refl _ _).alloc (Nat.le_refl _) _).alloc (by simp) _⟩
set_option maxHeartbeats 400000 in
theorem pThere_any (A : Option Addr) (n c : Nat) (node : Int) (w : World) :
    Calls Try.prog 35 #[.slice A n c, .int .i64 node] w fun e w' => e = .returned (.bool (thereN n node)) ∧ w = w' := by
  by_cases h0 : 0 ≤ node
  · by_cases h1 : node < (n : Int)
    all_goals
      go_enter Try.func35, Try.ntmps35
      go_wp2
      go_ret
      exact ⟨ret_bool (by simp [thereN, inIs]; omega), rfl⟩
  · go_enter Try.func35, Try.ntmps35
    go_wp2
    go_ret
    exact ⟨ret_bool (by simp [thereN, inIs]; omega), rfl⟩

theorem cells_i64 : Try.prog.cellsOf 2 = 1 := by kernel_rfl
/-- Four numbers, compared as wholes. -/
theorem eq_quad (a b c d a' b' c' d' : Int) (w : World) :
    (Op.equalIn 10000 83 (.agg #[.int .i64 a, .int .i64 b, .int .i64 c, .int .i64 d]) (.agg #[.int .i64 a', .int .i64 b', .int .i64 c', .int .i64 d'])).run Try.prog w = .ok (a == a' && b == b' && c == c' && d == d') w := by
  obtain ⟨i0, hi, hz0, hz1, hz2⟩ := info_parts Try.infoInt
  have he : ∀ (x y : Int) (w : World), (Op.equalIn 9999 2 (.int .i64 x) (.int .i64 y)).run Try.prog w = .ok (x == y) w := fun x y w => run_equalIn_int w 9998 _ _ _ x y Try.underlying2
  rw [run_equalIn_array w 9999 _ _ Try.underlying83 hi, show List.range 4 = [0, 1, 2, 3] from rfl, cells_i64]
  simp [Op.eqItems, part, he]
  by_cases h1 : a = a' <;> by_cases h2 : b = b' <;> by_cases h3 : c = c' <;> by_cases h4 : d = d' <;> simp [h1, h2, h3, h4]
theorem index_quad0 (a b c d : Int) (w : World) : (Instr.index 83 (.agg #[.int .i64 a, .int .i64 b, .int .i64 c, .int .i64 d]) (.int .i64 0)).run Try.prog w = .ok (.int .i64 a) w := by kernel_rfl
theorem index_quad1 (a b c d : Int) (w : World) : (Instr.index 83 (.agg #[.int .i64 a, .int .i64 b, .int .i64 c, .int .i64 d]) (.int .i64 1)).run Try.prog w = .ok (.int .i64 b) w := by kernel_rfl
theorem index_quad2 (a b c d : Int) (w : World) : (Instr.index 83 (.agg #[.int .i64 a, .int .i64 b, .int .i64 c, .int .i64 d]) (.int .i64 2)).run Try.prog w = .ok (.int .i64 c) w := by kernel_rfl
theorem index_quad3 (a b c d : Int) (w : World) : (Instr.index 83 (.agg #[.int .i64 a, .int .i64 b, .int .i64 c, .int .i64 d]) (.int .i64 3)).run Try.prog w = .ok (.int .i64 d) w := by kernel_rfl
/-- Four quarters that are one leaf. -/
def oneL (l : List Nd) (a b c d : Int) : Bool := a == b && a == c && a == d && !isSp (l.getD a.toNat ⟨0, 0, 0, 0, 0⟩)
theorem quad_ne {a b c d : Int} (h : ¬ (b = a ∧ c = a ∧ d = a)) : ¬ b = a ∨ (b = a ∧ ¬ c = a) ∨ (b = a ∧ c = a ∧ ¬ d = a) := by omega
set_option maxRecDepth 100000 in
set_option maxHeartbeats 400000 in
theorem pOneLeaf_any (A : Option Addr) (c : Nat) (l : List Nd) (qa qb qc qd : Int) (w : World) (h : RN w w.heap.size A l) (h0 : 0 ≤ qa) (h1 : qa < l.length) :
    Calls Try.prog 67 #[.slice A l.length c, qV qa qb qc qd] w fun e w' => e = .returned (.bool (oneL l qa qb qc qd)) ∧ Below w.heap.size w w' := by
  unfold qV
  obtain ⟨k, rfl⟩ := Int.eq_ofNat_of_zero_le h0
  have hk : k < l.length := by omega
  have hbw : Below w.heap.size w (w.alloc (.cells #[.int .i64 k, .int .i64 qb, .int .i64 qc, .int .i64 qd] 83)) := (Below.refl _ _).alloc (Nat.le_refl _) _
  have HD : Hid (l.getD k ⟨0, 0, 0, 0, 0⟩ = l[k]) := by show _ = _; simp [List.getD, hk]
  by_cases hq : qb = k ∧ qc = k ∧ qd = k
  · obtain ⟨rfl, rfl, rfl⟩ := hq
    obtain ⟨b, off, rfl, hb, hn⟩ := (h.below hbw).at_ hk
    clear h
    generalize hnk : l[k] = n at hn HD
    clear hnk
    have hS := pSplit_any n
    obtain ⟨nt, na, nb, nc, nd⟩ := n
    unfold Nd.val at hS
    obtain ⟨d0, d1, d2, d3, d4⟩ := hn
    simp only at d0 d1 d2 d3 d4 hS
    have heq := eq_quad k k k k k k k k
    simp only [beq_self_eq_true, Bool.and_self] at heq
    go_enter Try.func67, Try.ntmps67
    go_wp2_with fail
    refine (hS _).mono ?_
    rintro e w1 ⟨rfl, hb1⟩
    have HB1 := Lib.hid (hbw.trans (hb1.mono hbw.size))
    clear hb1
    go_wp2
    go_ret
    exact ⟨ret_bool (by rw [oneL, Int.toNat_natCast, HD.out]; simp), HB1.out⟩
  · have HQ := Lib.hid hq
    have h5 := quad_ne hq
    have heq : ∀ w, (Op.equalIn 10000 83 (.agg #[.int .i64 k, .int .i64 qb, .int .i64 qc, .int .i64 qd]) (.agg #[.int .i64 k, .int .i64 k, .int .i64 k, .int .i64 k])).run Try.prog w = .ok false w := by
      intro w
      rw [eq_quad]
      rcases h5 with h5 | ⟨rfl, h5⟩ | ⟨rfl, rfl, h5⟩ <;> simp [h5]
    clear hq h
    rcases h5 with h5 | ⟨rfl, h5⟩ | ⟨rfl, rfl, h5⟩
    all_goals
      go_enter Try.func67, Try.ntmps67
      go_wp2
      go_ret
      exact ⟨ret_bool (by simp [oneL]; omega), hbw⟩
end Go.Proofs.Ytoobkajilbmdhaa
