/- The program's ways: the first put; what holds while steps are gone through. -/
import Derived.Test.YtmjbefjkkncjlaaWyU
import Derived.Test.YtmjbefjkkncjlaaPgN
namespace Go.Proofs.Ytmjbefjkkncjlaa
open Go.RowKit Go.Shelf
set_option linter.unusedVariables false
set_option linter.unusedSimpArgs false

set_option maxRecDepth 100000 in
set_option maxHeartbeats 1000000 in
theorem pQPut_first {w : World} {base bo : Nat} (px py : Int) (c0 : w.cell? ⟨bo, 0, none⟩ = some (.slice none 0 0)) (f0 : w.frozen? ⟨bo, 0, none⟩ = false) (hb : base ≤ bo) :
    Calls Try.prog 40 #[.pointer (some ⟨bo, 0, none⟩), .agg #[.int .i64 px, .int .i64 py]] w fun e w' => e = .returned (.tuple #[]) ∧ ∃ b2 off2 cap2, QB w' base bo b2 off2 cap2 [⟨px, py⟩] ∧ w.heap.size ≤ b2 ∧ Trn (fun k => k = bo) w w' := by
  obtain ⟨i0, hin, hz0, hz1, hz2⟩ := info_parts Try.infoPl
  have hbo : bo < w.heap.size := World.block_lt_of_cell? w _ c0
  have hba : Below w.heap.size w ((w.alloc (.cells #[.int .i64 px, .int .i64 py] 27)).alloc (.cells #[.int .i64 px, .int .i64 py] 27)).drew := bel_T (bel_A _ _) (bel_T (bel_A _ _) (bel_D _))
  have HNA : Hid (PlAt ((w.alloc (.cells #[.int .i64 px, .int .i64 py] 27)).alloc (.cells #[.int .i64 px, .int .i64 py] 27)).drew (w.heap.size + 1) 0 ⟨px, py⟩) := ⟨by simp [go_sem], by simp [go_sem]⟩
  have HO : Hid (OwnPl ((w.alloc (.cells #[.int .i64 px, .int .i64 py] 27)).alloc (.cells #[.int .i64 px, .int .i64 py] 27)).drew base (.slice none 0 0) []) := OwnPl.nil _ _
  have HT := Lib.hid hba
  have HC := Lib.hid ((hba.cell (p := ⟨bo, 0, none⟩) hbo).trans c0)
  have HFz := Lib.hid ((hba.frozen (p := ⟨bo, 0, none⟩) hbo).trans f0)
  have hb1 : ¬ bo = w.heap.size := by omega
  have hb2 : ¬ bo = w.heap.size + 1 := by omega
  have hbz : bo < ((w.alloc (.cells #[.int .i64 px, .int .i64 py] 27)).alloc (.cells #[.int .i64 px, .int .i64 py] 27)).drew.heap.size := Nat.lt_of_lt_of_le hbo hba.size
  have HBZ := Lib.hid hbz
  have hbb : base ≤ ((w.alloc (.cells #[.int .i64 px, .int .i64 py] 27)).alloc (.cells #[.int .i64 px, .int .i64 py] 27)).drew.heap.size := by omega
  have HBB := Lib.hid hbb
  clear hba hbz hbb
  go_enter Try.func40, Try.ntmps40
  go_upto_region 1 with fail
  go_region_law ((refine step_appendPl hin hz0 hz1 hz2 (by rfl) _ _ (by rfl) base (.slice none 0 0) [] ⟨px, py⟩ _ (w.heap.size + 1) HO.out (by rfl) (by rfl) HNA.out (by simp) HBB.out ?_; intro g2 cap2 w2 ho2 hg2 hl2; have c2 := (World.cell?_of_block (a := ⟨bo, 0, none⟩) (hg2.block bo HBZ.out (by simp [Value.ownBlock]))).trans HC.out; have f2 := (World.frozen?_of_block (a := ⟨bo, 0, none⟩) (hg2.block bo HBZ.out (by simp [Value.ownBlock]))).trans HFz.out))
  all_goals
    have HO2 := Lib.hid ho2
    have HG2 := Lib.hid hg2
    have HL2 := Lib.hid hl2
    have C2 := Lib.hid c2
    have F2 := Lib.hid f2
    clear ho2 hg2 hl2
    go_wp2_with fail
    go_end0
    have hgz := World.ownsRow.lt HO2.out g2 rfl
    have hne : bo ≠ g2 := by
      rcases HL2.out with e | e
      · simp [Value.ownBlock] at e
      · have := HBZ.out; omega
    have hq := QA.of_own HO2.out hgz.2
    refine ⟨rfl, g2, 0, cap2, ⟨hq.kept (heap_setCell_other w2 _ g2 _ (fun e => hne e.symm)) (by simp), World.cell?_setCell_same' _ _ _ (by rw [C2.out]; rfl), by rw [World.frozen?_setCell]; exact F2.out, hne, hb, cells_set (cells_of_cell (hq.at_ 0 (by simp)).c0) _ _⟩, ?_, ?_⟩
    · rcases HL2.out with e | e
      · simp [Value.ownBlock] at e
      · rw [e]; exact HT.out.size
    · refine ((Trn.of_below HT.out).trans (q := fun _ => False) ⟨HG2.out.os, HG2.out.tape, HG2.out.output, HG2.out.size, fun k hk _ => HG2.out.block k hk (by simp [Value.ownBlock])⟩ fun k _ e => e.elim).trans (Trn.set w2 bo 0 _) fun k _ e => e
/-- What holds between two rounds over the steps from a place: W0 is the memory ahead of them. -/
structure PI (w W0 : World) (side : Int) (A : Option Addr) (c : Nat) (l : List Int) (bg bd bo gd cd b0 s aP K : Nat) (done : Nat → Prop) (W : World) (d : List Int) (b off cap : Nat) (q : List Pl) : Prop where
  ps : PS5 w.heap.size side A c l bg bd bo gd cd d b off cap q W
  hb : b = b0 ∨ W0.heap.size ≤ b
  tr : Trn (fun k => k = gd ∨ k = bo ∨ k = b0) W0 W
  dm : DM side l s aP done d q
  lf : lft side l d q < K
def PIn (w W0 : World) (side : Int) (A : Option Addr) (c : Nat) (l : List Int) (bg bd bo gd cd b0 s aP K : Nat) (px py : Int) (pre : List (StepTo side l px py)) (W : World) : Prop :=
  ∃ d b off cap q, PI w W0 side A c l bg bd bo gd cd b0 s aP K (fun j => ∃ x ∈ pre, j = pn side x.1.x x.1.y) W d b off cap q
section
variable {w W0 : World} {side : Int} {A : Option Addr} {c : Nat} {l : List Int} {bg bd bo gd cd b0 s aP K : Nat} {px py : Int}
theorem PI.keep {done : Nat → Prop} {W W' : World} {d : List Int} {b off cap : Nat} {q : List Pl} (h : PI w W0 side A c l bg bd bo gd cd b0 s aP K done W d b off cap q) {p : Nat → Prop} (ht : Trn p W W') (hp : ∀ k, (∃ x : Obj, W.heap[k]? = some x ∧ x.isCells = true) → ¬ p k) (hn : ∀ k, p k → W0.heap.size ≤ k) : PI w W0 side A c l bg bd bo gd cd b0 s aP K done W' d b off cap q :=
  ⟨h.ps.keep ht fun k hc _ => hp k hc, h.hb, h.tr.trans ht fun k hk e => absurd (hn k e) (by omega), h.dm, h.lf⟩
theorem PIn.own : OwnFrom W0.heap.size (PIn w W0 side A c l bg bd bo gd cd b0 s aP K px py) := by
  rintro pre W W' row ⟨d, b, off, cap, q, h⟩ hg hr
  refine ⟨d, b, off, cap, q, h.keep (Trn.of_grownBy hg (p := fun k => row = some k) fun r e => e) (fun k hc e => ?_) fun k e => (hr k e).1⟩
  obtain ⟨o, ho, hoc⟩ := (hr k e).2
  obtain ⟨x, hx, hxc⟩ := hc
  rw [hx] at ho
  cases ho
  rw [hxc] at hoc
  cases hoc
theorem PIn.below {pre : List (StepTo side l px py)} {W W' : World} (h : PIn w W0 side A c l bg bd bo gd cd b0 s aP K px py pre W) (hb : Below W.heap.size W W') : PIn w W0 side A c l bg bd bo gd cd b0 s aP K px py pre W' := by
  obtain ⟨d, b, off, cap, q, h⟩ := h
  exact ⟨d, b, off, cap, q, h.keep (p := fun _ => False) (Trn.of_below hb) (fun _ _ => id) (fun _ => False.elim)⟩
end
end Go.Proofs.Ytmjbefjkkncjlaa
