/- The program's pools: the shelf is made, a map is put in. -/
import Derived.Test.YtphkceiafehidaaPgX
import Derived.Laws.EntriesVeiled
namespace Go.Proofs.Ytphkceiafehidaa
open Go.RowKit
set_option linter.unusedVariables false

theorem msq_lt (T : Nat → Nat → Int) (d x y : Nat) (l : List Nd) : (msq T d x y l).2 < (msq T d x y l).1.length := by
  obtain ⟨n, h, _⟩ := msq_at T d x y l
  exact (List.getElem?_eq_some_iff.1 h).1
theorem pre_len {a b : List Nd} (h : ∃ t, b = a ++ t) : a.length ≤ b.length := by obtain ⟨t, rfl⟩ := h; simp
theorem pSq_succ (sn : Nat) (tiles : List Int) (hs8 : sn ≤ 8) (htt : ∀ t ∈ tiles, 0 ≤ t ∧ t ≤ 9) (d : Nat) (ih : SqDoes sn tiles d) : SqDoes sn tiles (d + 1) := by
  intro base p m bs bg bf x y cg v l A w hx hy hss hcb hlen
  have hT : ∀ x y, tileF sn tiles x y ≠ -1 := fun x y => by
    unfold tileF
    by_cases hi : y * sn + x < tiles.length
    · have := htt _ (List.getElem_mem hi); simp [List.getD, hi]; omega
    · simp [List.getD, hi]
  have HM := psq_msq (tileF sn tiles) hT (d + 1) x y l
  have HM1 := psq_msq (tileF sn tiles) hT d
  have e2 : 2 ^ (d + 1) = 2 * 2 ^ d := by rw [Nat.pow_succ, Nat.mul_comm]
  have hp1 : 1 ≤ 2 ^ d := Nat.one_le_two_pow
  have E : msq (tileF sn tiles) (d + 1) x y l = resQ (msq (tileF sn tiles) d (x + 2 ^ d) (y + 2 ^ d) (msq (tileF sn tiles) d x (y + 2 ^ d) (msq (tileF sn tiles) d (x + 2 ^ d) y (msq (tileF sn tiles) d x y l).1).1).1).1
      (msq (tileF sn tiles) d x y l).2 (msq (tileF sn tiles) d (x + 2 ^ d) y (msq (tileF sn tiles) d x y l).1).2 (msq (tileF sn tiles) d x (y + 2 ^ d) (msq (tileF sn tiles) d (x + 2 ^ d) y (msq (tileF sn tiles) d x y l).1).1).2 (msq (tileF sn tiles) d (x + 2 ^ d) (y + 2 ^ d) (msq (tileF sn tiles) d x (y + 2 ^ d) (msq (tileF sn tiles) d (x + 2 ^ d) y (msq (tileF sn tiles) d x y l).1).1).1).2 := by
    rw [← HM]
    simp only [psq, HM1]
    rfl
  rw [E]
  clear HM HM1 E hT
  simp only [cnt] at hlen
  have b0 := msq_len (tileF sn tiles) d x y l
  have b1 := msq_len (tileF sn tiles) d (x + 2 ^ d) y (msq (tileF sn tiles) d x y l).1
  have b2 := msq_len (tileF sn tiles) d x (y + 2 ^ d) (msq (tileF sn tiles) d (x + 2 ^ d) y (msq (tileF sn tiles) d x y l).1).1
  have b3 := msq_len (tileF sn tiles) d (x + 2 ^ d) (y + 2 ^ d) (msq (tileF sn tiles) d x (y + 2 ^ d) (msq (tileF sn tiles) d (x + 2 ^ d) y (msq (tileF sn tiles) d x y l).1).1).1
  have t0 := msq_lt (tileF sn tiles) d x y l
  have t1 := msq_lt (tileF sn tiles) d (x + 2 ^ d) y (msq (tileF sn tiles) d x y l).1
  have t2 := msq_lt (tileF sn tiles) d x (y + 2 ^ d) (msq (tileF sn tiles) d (x + 2 ^ d) y (msq (tileF sn tiles) d x y l).1).1
  have t3 := msq_lt (tileF sn tiles) d (x + 2 ^ d) (y + 2 ^ d) (msq (tileF sn tiles) d x (y + 2 ^ d) (msq (tileF sn tiles) d (x + 2 ^ d) y (msq (tileF sn tiles) d x y l).1).1).1
  have p1 := pre_len (msq_pre (tileF sn tiles) d (x + 2 ^ d) y (msq (tileF sn tiles) d x y l).1)
  have p2 := pre_len (msq_pre (tileF sn tiles) d x (y + 2 ^ d) (msq (tileF sn tiles) d (x + 2 ^ d) y (msq (tileF sn tiles) d x y l).1).1)
  have p3 := pre_len (msq_pre (tileF sn tiles) d (x + 2 ^ d) (y + 2 ^ d) (msq (tileF sn tiles) d x (y + 2 ^ d) (msq (tileF sn tiles) d (x + 2 ^ d) y (msq (tileF sn tiles) d x y l).1).1).1)
  refine pSq_body sn tiles (2 ^ (d + 1)) (2 ^ d) e2 hp1 base p m bs bg bf x y cg v l (msq (tileF sn tiles) d x y l).1 (msq (tileF sn tiles) d (x + 2 ^ d) y (msq (tileF sn tiles) d x y l).1).1 (msq (tileF sn tiles) d x (y + 2 ^ d) (msq (tileF sn tiles) d (x + 2 ^ d) y (msq (tileF sn tiles) d x y l).1).1).1 _ _ _ _ _ A w (by omega) (by omega) hss hcb (by omega) (by omega) ⟨by omega, by omega, by omega, by omega⟩ ?_ ?_ ?_ ?_
  · intro v' w' hs hc
    exact ih base p m bs bg bf x y cg v' _ A w' (by omega) (by omega) hs hc (by omega)
  · intro v' w' hs hc
    have := ih base p m bs bg bf (x + 2 ^ d) y cg v' _ A w' (by omega) (by omega) hs hc (by omega)
    rw [Int.natCast_add] at this
    exact this
  · intro v' w' hs hc
    have := ih base p m bs bg bf x (y + 2 ^ d) cg v' _ A w' (by omega) (by omega) hs hc (by omega)
    rw [Int.natCast_add] at this
    exact this
  · intro v' w' hs hc
    have := ih base p m bs bg bf (x + 2 ^ d) (y + 2 ^ d) cg v' _ A w' (by omega) (by omega) hs hc (by omega)
    rw [Int.natCast_add, Int.natCast_add] at this
    exact this
theorem pSq_any (sn : Nat) (tiles : List Int) (hs8 : sn ≤ 8) (htl : tiles.length = sn * sn) (htt : ∀ t ∈ tiles, 0 ≤ t ∧ t ≤ 9) : ∀ d, SqDoes sn tiles d
  | 0 => pSq_zero sn tiles hs8 htl htt
  | d + 1 => pSq_succ sn tiles hs8 htt d (pSq_any sn tiles hs8 htl htt d)

/-- putGrid. -/
def GridPut (sn : Nat) (tiles : List Int) (l : List Nd) : List Nd × Nat := msq (tileF sn tiles) (dbl sn) 0 0 l
set_option maxRecDepth 100000 in
set_option maxHeartbeats 1000000 in
theorem pPutGrid_any (sn : Nat) (tiles : List Int) (hs : sideOk (sn : Int) = true) (htl : tiles.length = sn * sn) (htt : ∀ t ∈ tiles, 0 ≤ t ∧ t ≤ 9) (base p m cg : Nat) (v : Value) (l : List Nd) (A : Option Addr) (w : World) (hss : SS base p m v l w) (hri : RI w base A tiles) (hlen : l.length ≤ 1000) :
    Calls Try.prog 84 #[.pointer (some ⟨p, 0, none⟩), .agg #[.int .i64 sn, .slice A tiles.length cg]] w fun e w' => e = .returned (.int .i64 (GridPut sn tiles l).2) ∧ ∃ v', SS base p m v' (GridPut sn tiles l).1 w' ∧ PG p m v v' w w' := by
  obtain ⟨sn', e1, hs8, hpw, hd3⟩ := pow_dbl hs
  obtain rfl : sn = sn' := by omega
  have HD := Lib.hid (pSq_any sn tiles hs8 htl htt (dbl sn))
  have HS := Lib.hid hss
  have HRI := Lib.hid hri
  have HPW := Lib.hid hpw
  have HD3 := Lib.hid hd3
  have hp := hss.ps.lt
  have hm := hss.map.lt
  have HR := Lib.hid (fun k (h : v.ownBlock = some k) => (hss.ps.own.lt k h).2)
  have HBB : Hid (base ≤ w.heap.size) := Nat.le_trans hss.ps.hb (Nat.le_of_lt hp)
  clear hss hri hs htl htt e1 hpw hd3
  have hmf : ∀ (fn : Fn) (first cap : Array Value) (w : World), (Instr.makeFunc fn first cap).run Try.prog w = .ok (.func fn first cap) w := fun _ _ _ _ => rfl
  go_enter Try.func84, Try.ntmps84
  go_wp2_with fail
  have hc := fun bs bg bf W => HD.out base p m bs bg bf 0 0 cg v l A W
  simp only [HPW.out, Int.natCast_zero, Nat.zero_add] at hc
  refine (hc _ _ _ _ (Nat.le_refl _) (Nat.le_refl _) ?_ ?_ (by have := cnt_le HD3.out; omega)).mono ?_
  · exact HS.out.below ((((Below.refl _ _).alloc (Nat.le_refl _) _).alloc (by simp) _).alloc (by simp; omega) _)
  · have hb3 := HBB.out
    refine CB.mk (by simp [go_sem]) (by simp [go_sem]) (by simp [go_sem]) (by simp [go_sem]) (HRI.out.below ((((Below.refl base w).alloc HBB.out _).alloc (by simp; omega) _).alloc (by simp; omega) _)) ⟨by simp; omega, by omega, by omega, fun e => by have := HR.out _ e; omega⟩ ⟨by simp, by omega, by omega, fun e => by have := HR.out _ e; omega⟩ ⟨by simp, by omega, by omega, fun e => by have := HR.out _ e; omega⟩
  · rintro e w2 ⟨rfl, v2, hs2, hg2⟩
    have HS2 := Lib.hid hs2
    have HG2 := Lib.hid ((PG.below (p := p) (m := m) (v := v) ((((Below.refl w.heap.size w).alloc (Nat.le_refl _) _).alloc (by simp) _).alloc (by simp; omega) _)).trans hg2)
    clear hs2 hg2 hc
    go_wp2_with fail
    go_ret
    exact ⟨rfl, v2, HS2.out, HG2.out⟩
end Go.Proofs.Ytphkceiafehidaa
