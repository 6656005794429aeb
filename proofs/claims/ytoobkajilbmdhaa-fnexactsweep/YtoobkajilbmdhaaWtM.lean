/- The model's marks. -/
import Derived.Test.YtoobkajilbmdhaaWt
import Derived.Test.YtoobkajilbmdhaaBools
namespace Go.Proofs.Ytoobkajilbmdhaa
open Go.RowKit
set_option linter.unusedVariables false

/-- The state of a marking call: its marks, its two boxes. -/
structure MS (w0 : World) (A : Option Addr) (c : Nat) (l : List Nd) (g cm base : Nat) (n : Nd) (M : List Bool) (wr : World) : Prop where
  own : OwnB wr base (.slice (some ⟨g, 0, none⟩) l.length cm) M
  grown : w0.grownBy wr (some g)
  box : wr.cell? ⟨w0.heap.size, 0, none⟩ = some (.slice A l.length c)
  nd : NdAt wr (w0.heap.size + 1) 0 n
  siz : w0.heap.size + 1 < wr.heap.size
theorem MS.step {w0 : World} {A : Option Addr} {c : Nat} {l : List Nd} {g cm base : Nat} {n : Nd} {M M' : List Bool} {wr wr' : World} (h : MS w0 A c l g cm base n M wr) (hg : wr.grownBy wr' (some g)) (ho : OwnB wr' base (.slice (some ⟨g, 0, none⟩) l.length cm) M') (hgw : g < w0.heap.size) : MS w0 A c l g cm base n M' wr' :=
  ⟨ho, by_trans h.grown hg, hg.cell h.box (by simp; omega), h.nd.keep (hg.block _ h.siz (by simp; omega)), Nat.lt_of_lt_of_le h.siz hg.size⟩
theorem MS.rn {w0 : World} {A : Option Addr} {c : Nat} {l : List Nd} {g cm base : Nat} {n : Nd} {M : List Bool} {wr : World} (h : MS w0 A c l g cm base n M wr) (hr : RN w0 g A l) (hgw : g < w0.heap.size) : RN wr g A l :=
  hr.keep fun k hk => h.grown.block k (by omega) (by simp; omega)
structure B2 (w : World) (b : Nat) (v : Value) (n : Nd) : Prop where
  bx : w.cell? ⟨b, 0, none⟩ = some v
  c0 : w.cell? ⟨b + 1, 0, none⟩ = some (.int .i64 n.tile)
  c1 : w.cell? ⟨b + 1, 0 + 1, none⟩ = some (.int .i64 n.a)
  c2 : w.cell? ⟨b + 1, 0 + 2, none⟩ = some (.int .i64 n.b)
  c3 : w.cell? ⟨b + 1, 0 + 3, none⟩ = some (.int .i64 n.c)
  c4 : w.cell? ⟨b + 1, 0 + 4, none⟩ = some (.int .i64 n.d)
theorem MS.enter {w0 : World} {A : Option Addr} {c : Nat} {l : List Nd} {g cm base node : Nat} {nt na nb nc nd : Int} {M : List Bool} {w1 : World} (ho : OwnB w0 base (.slice (some ⟨g, 0, none⟩) l.length cm) M)
    (hb : Below (((w0.setCell ⟨g, node, none⟩ (.bool true)).alloc (.cells #[.slice A l.length c] 29)).alloc (.cells #[.int .i64 nt, .int .i64 na, .int .i64 nb, .int .i64 nc, .int .i64 nd] 73)).heap.size (((w0.setCell ⟨g, node, none⟩ (.bool true)).alloc (.cells #[.slice A l.length c] 29)).alloc (.cells #[.int .i64 nt, .int .i64 na, .int .i64 nb, .int .i64 nc, .int .i64 nd] 73)) w1) : MS w0 A c l g cm base ⟨nt, na, nb, nc, nd⟩ (M.set node true) w1 := by
  have hs := ho.store (j := node) true
  have hz : (w0.setCell ⟨g, node, none⟩ (.bool true)).heap.size = w0.heap.size := by simp
  generalize w0.setCell ⟨g, node, none⟩ (.bool true) = W at *
  have hbx : B2 ((W.alloc (.cells #[.slice A l.length c] 29)).alloc (.cells #[.int .i64 nt, .int .i64 na, .int .i64 nb, .int .i64 nc, .int .i64 nd] 73)) W.heap.size (.slice A l.length c) ⟨nt, na, nb, nc, nd⟩ := ⟨by simp [go_sem], by simp [go_sem], by simp [go_sem], by simp [go_sem], by simp [go_sem], by simp [go_sem]⟩
  have hz2 : ((W.alloc (.cells #[.slice A l.length c] 29)).alloc (.cells #[.int .i64 nt, .int .i64 na, .int .i64 nb, .int .i64 nc, .int .i64 nd] 73)).heap.size = w0.heap.size + 1 + 1 := by simp [hz]
  have hg2 : W.grownBy ((W.alloc (.cells #[.slice A l.length c] 29)).alloc (.cells #[.int .i64 nt, .int .i64 na, .int .i64 nb, .int .i64 nc, .int .i64 nd] 73)) (some g) := by_trans (World.grownBy_alloc _ _ _) (World.grownBy_alloc _ _ _)
  have ho2 : OwnB ((W.alloc (.cells #[.slice A l.length c] 29)).alloc (.cells #[.int .i64 nt, .int .i64 na, .int .i64 nb, .int .i64 nc, .int .i64 nd] 73)) base (.slice (some ⟨g, 0, none⟩) l.length cm) (M.set node true) := (hs.1.alloc _).alloc _
  generalize (W.alloc (.cells #[.slice A l.length c] 29)).alloc (.cells #[.int .i64 nt, .int .i64 na, .int .i64 nb, .int .i64 nc, .int .i64 nd] 73) = X at *
  rw [hz] at hbx
  refine ⟨ho2.keep hb, by_trans hs.2 (by_trans hg2 (below_by hb _)), (hb.cell (p := ⟨w0.heap.size, 0, none⟩) (by show w0.heap.size < _; omega)).trans hbx.bx, ?_, by have := hb.size; omega⟩
  exact (NdAt.mk hbx.c0 hbx.c1 hbx.c2 hbx.c3 hbx.c4).keep (hb.block _ (by omega))

set_option maxRecDepth 100000 in
set_option maxHeartbeats 1000000 in
theorem mMark_any (l : List Nd) (hr : poolRight l = true) : ∀ (k : Nat) (A : Option Addr) (c g cm base node : Nat) (M : List Bool) (w : World), node < k → node < l.length → M.length = l.length → RN w g A l → OwnB w base (.slice (some ⟨g, 0, none⟩) l.length cm) M →
    Calls Try.prog 32 #[.agg #[.slice A l.length c], .slice (some ⟨g, 0, none⟩) l.length cm, .int .i64 node] w fun e w' => e = .returned (.tuple #[]) ∧ ∃ M', MarkP l M M' node ∧ OwnB w' base (.slice (some ⟨g, 0, none⟩) l.length cm) M' ∧ w.grownBy w' (some g) := by
  intro k
  induction k with
  | zero => intro A c g cm base node M w hk; omega
  | succ k ih =>
    intro A c g cm base node M w hk hn hM hrn how
    have hl := pool_len hr
    obtain ⟨g', eg, hbg, hgw, cM, fM⟩ := how.at_ (j := node) (by omega)
    cases eg
    have HO := Lib.hid how
    have HRN := Lib.hid hrn
    have n0 : (0 : Int) ≤ (node : Int) := by omega
    have n1 : (node : Int) < (l.length : Int) := by omega
    clear how hrn
    cases hm : M[node]'(by omega)
    · rw [hm] at cM
      have HS := Lib.hid ((HO.out.alloc (.cells #[.slice A l.length c] 29)).store (j := node) true)
      obtain ⟨b, off, rfl, hbl, hN⟩ := HRN.out.at_ hn
      have HBG := Lib.hid hbl
      have hne : ¬ b = g := by omega
      generalize hnk : l[node] = n at hN
      have HNK := Lib.hid hnk
      clear hnk
      have hLf := mLeaf_any n
      cases hlf : leafN n
      · have hok := right_node hr hn
        rw [HNK.out] at hok
        obtain ⟨q0, qa, qb, qc, qd⟩ := ok_split hok hlf
        clear q0 hok
        have HP : Hid (∀ M2 M3 M4 M5, MarkP l (M.set node true) M2 n.a.toNat → MarkP l M2 M3 n.b.toNat → MarkP l M3 M4 n.c.toNat → MarkP l M4 M5 n.d.toNat → MarkP l M M5 node) := by
          intro M2 M3 M4 M5 h2 h3 h4 h5
          exact MarkP.split hn hM (by rw [HNK.out]; exact hlf) (by rw [HNK.out]; exact h2) (by rw [HNK.out]; exact h3) (by rw [HNK.out]; exact h4) (by rw [HNK.out]; exact h5)
        rw [hlf] at hLf
        clear hlf hm HNK
        obtain ⟨nt, na, nb, nc, nd⟩ := n
        simp only at qa qb qc qd HP
        obtain ⟨ia, rfl⟩ := Int.eq_ofNat_of_zero_le qa.1
        obtain ⟨ib, rfl⟩ := Int.eq_ofNat_of_zero_le qb.1
        obtain ⟨ic, rfl⟩ := Int.eq_ofNat_of_zero_le qc.1
        obtain ⟨id, rfl⟩ := Int.eq_ofNat_of_zero_le qd.1
        simp only [Int.toNat_natCast] at HP
        unfold Nd.val at hLf
        obtain ⟨d0, d1, d2, d3, d4⟩ := hN
        simp only at d0 d1 d2 d3 d4 hLf
        have hbw : b < w.heap.size := by omega
        go_enter Try.func32, Try.ntmps32
        go_wp2_with fail
        refine (hLf _).mono ?_
        rintro e w1 ⟨rfl, hb1⟩
        have H1 := Lib.hid (MS.enter HO.out hb1)
        have HL1 : Hid ((M.set node true).length = M.length) := by show _ = _; simp
        clear hb1 d0 d1 d2 d3 d4 hLf HS cM fM
        have e0 := H1.out.box
        obtain ⟨p0, p1, p2, p3, p4⟩ := H1.out.nd.five
        simp only at p0 p1 p2 p3 p4
        go_wp2_with fail
        refine (ih (some ⟨b, off, none⟩) c g cm base ia _ w1 (by omega) (by omega) (by rw [HL1.out]; exact hM) (H1.out.rn HRN.out hgw) H1.out.own).mono ?_
        rintro e w2 ⟨rfl, M2, hp2, ho2, hg2⟩
        have H2 := Lib.hid (H1.out.step hg2 ho2 hgw)
        have HP2 := Lib.hid hp2
        have HL2 : Hid (M2.length = M.length) := hp2.len.trans HL1.out
        clear hp2 ho2 hg2 e0 p0 p1 p2 p3 p4
        have e1 := H2.out.box
        obtain ⟨p0, p1, p2, p3, p4⟩ := H2.out.nd.five
        simp only at p0 p1 p2 p3 p4
        go_wp2_with fail
        refine (ih (some ⟨b, off, none⟩) c g cm base ib _ w2 (by omega) (by omega) (by rw [HL2.out]; exact hM) (H2.out.rn HRN.out hgw) H2.out.own).mono ?_
        rintro e w3 ⟨rfl, M3, hp3, ho3, hg3⟩
        have H3 := Lib.hid (H2.out.step hg3 ho3 hgw)
        have HP3 := Lib.hid hp3
        have HL3 : Hid (M3.length = M.length) := hp3.len.trans HL2.out
        clear hp3 ho3 hg3 e1 p0 p1 p2 p3 p4
        have e2 := H3.out.box
        obtain ⟨p0, p1, p2, p3, p4⟩ := H3.out.nd.five
        simp only at p0 p1 p2 p3 p4
        go_wp2_with fail
        refine (ih (some ⟨b, off, none⟩) c g cm base ic _ w3 (by omega) (by omega) (by rw [HL3.out]; exact hM) (H3.out.rn HRN.out hgw) H3.out.own).mono ?_
        rintro e w4 ⟨rfl, M4, hp4, ho4, hg4⟩
        have H4 := Lib.hid (H3.out.step hg4 ho4 hgw)
        have HP4 := Lib.hid hp4
        have HL4 : Hid (M4.length = M.length) := hp4.len.trans HL3.out
        clear hp4 ho4 hg4 e2 p0 p1 p2 p3 p4
        have e3 := H4.out.box
        obtain ⟨p0, p1, p2, p3, p4⟩ := H4.out.nd.five
        simp only at p0 p1 p2 p3 p4
        go_wp2_with fail
        refine (ih (some ⟨b, off, none⟩) c g cm base id _ w4 (by omega) (by omega) (by rw [HL4.out]; exact hM) (H4.out.rn HRN.out hgw) H4.out.own).mono ?_
        rintro e w5 ⟨rfl, M5, hp5, ho5, hg5⟩
        have H5 := Lib.hid (H4.out.step hg5 ho5 hgw)
        have HP5 := Lib.hid hp5
        have HL5 : Hid (M5.length = M.length) := hp5.len.trans HL4.out
        clear hp5 ho5 hg5 e3 p0 p1 p2 p3 p4
        go_wp2_with fail
        go_end0
        exact ⟨rfl, _, HP.out _ _ _ _ HP2.out HP3.out HP4.out HP5.out, H5.out.own, H5.out.grown⟩
      · rw [hlf] at hLf
        have HP : Hid (MarkP l M (M.set node true) node) := MarkP.leaf hn hM (by rw [HNK.out]; exact hlf)
        clear hlf hm
        obtain ⟨nt, na, nb, nc, nd⟩ := n
        unfold Nd.val at hLf
        obtain ⟨d0, d1, d2, d3, d4⟩ := hN
        simp only at d0 d1 d2 d3 d4 hLf
        have hbw : b < w.heap.size := by omega
        go_enter Try.func32, Try.ntmps32
        go_wp2_with fail
        refine (hLf _).mono ?_
        rintro e w1 ⟨rfl, hb1⟩
        have H1 := Lib.hid (MS.enter HO.out hb1)
        clear hb1
        go_wp2_with fail
        go_end0
        exact ⟨rfl, _, HP.out, H1.out.own, H1.out.grown⟩
    · rw [hm] at cM
      have HM : Hid (M.getD node false = true) := by show _ = _; simp [List.getD, hm, show node < M.length by omega]
      clear hm
      go_enter Try.func32, Try.ntmps32
      go_wp2_with fail
      refine bodyPost_ret (results_none rfl _ _ _) rfl ?_
      exact ⟨rfl, M, MarkP.there HM.out, HO.out.alloc _, World.grownBy_alloc _ _ _⟩

end Go.Proofs.Ytoobkajilbmdhaa
