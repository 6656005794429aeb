/- What holds in the law of PoolPut. -/
import Derived.Test.YtbcnfohbiagfpaaNodeX
import Derived.Test.YtbcnfohbiagfpaaPWalk
import Derived.Test.YtbcnfohbiagfpaaGWalkF
import Derived.Test.YtbcnfohbiagfpaaPutMo
namespace Go.Proofs.Ytbcnfohbiagfpaa
open Go.RowKit
set_option linter.unusedVariables false

/-- The two arguments in their boxes. -/
structure AR (w : World) (a : Option Addr) (n cap : Nat) (side : Int) (ag : Option Addr) (ng capg : Nat) (wr : World) : Prop where
  p0 : wr.cell? ⟨w.heap.size, 0, none⟩ = some (.slice a n cap)
  g0 : wr.cell? ⟨w.heap.size + 1, 0, none⟩ = some (.int .i64 side)
  g1 : wr.cell? ⟨w.heap.size + 1, 1, none⟩ = some (.slice ag ng capg)
  bel : Below w.heap.size w wr
  siz : w.heap.size + 1 < wr.heap.size
section
variable {w : World} {a : Option Addr} {n cap : Nat} {side : Int} {ag : Option Addr} {ng capg : Nat} {wr wr' : World}
theorem AR.below (h : AR w a n cap side ag ng capg wr) (hb : Below wr.heap.size wr wr') : AR w a n cap side ag ng capg wr' :=
  have hs := h.siz
  ⟨(hb.cell (p := ⟨w.heap.size, 0, none⟩) (by show w.heap.size < _; omega)).trans h.p0, (hb.cell (p := ⟨w.heap.size + 1, 0, none⟩) hs).trans h.g0, (hb.cell (p := ⟨w.heap.size + 1, 1, none⟩) hs).trans h.g1, h.bel.trans (hb.mono h.bel.size), Nat.lt_of_lt_of_le hs hb.size⟩
theorem AR.drew (h : AR w a n cap side ag ng capg wr) : AR w a n cap side ag ng capg wr.drew := h.below (Below.refl _ _).drew
theorem AR.grown {row : Option Nat} (h : AR w a n cap side ag ng capg wr) (hg : wr.grownBy wr' row) (hr : ∀ k, row = some k → w.heap.size + 1 < k) : AR w a n cap side ag ng capg wr' :=
  have hs := h.siz
  ⟨hg.cell h.p0 (fun e => by have := hr _ e.symm; simp only at this; omega), hg.cell h.g0 (fun e => by have := hr _ e.symm; simp only at this; omega), hg.cell h.g1 (fun e => by have := hr _ e.symm; simp only at this; omega), h.bel.grown hg h.bel.size (fun k hk => by have := hr k hk; omega), Nat.lt_of_lt_of_le hs hg.size⟩
theorem AR.made (w : World) (a : Option Addr) (n cap : Nat) (side : Int) (ag : Option Addr) (ng capg : Nat) : AR w a n cap side ag ng capg ((w.alloc (.cells #[.slice a n cap] 52)).alloc (.cells #[.int .i64 side, .slice ag ng capg] 53)) :=
  ⟨by simp [go_sem], by simp [go_sem], by simp [go_sem], ((Below.refl _ _).alloc (Nat.le_refl _) _).alloc (by simp) _, by simp⟩
end
/-- An answer in its box. -/
structure PO (wr : World) (b : Nat) (v : Value) (root code : Int) : Prop where
  c0 : wr.cell? ⟨b, 0, none⟩ = some v
  c1 : wr.cell? ⟨b, 1, none⟩ = some (.int .i64 root)
  c2 : wr.cell? ⟨b, 2, none⟩ = some (.int .i64 code)
theorem PO.keep {wr wr' : World} {b : Nat} {v : Value} {root code : Int} (h : PO wr b v root code) (hb : wr'.heap[b]? = wr.heap[b]?) : PO wr' b v root code :=
  ⟨(World.cell?_of_block (a := ⟨b, 0, none⟩) hb).trans h.c0, (World.cell?_of_block (a := ⟨b, 1, none⟩) hb).trans h.c1, (World.cell?_of_block (a := ⟨b, 2, none⟩) hb).trans h.c2⟩
theorem PO.made (w : World) (v : Value) (root code : Int) (t : TypeId) : PO (w.alloc (.cells #[v, .int .i64 root, .int .i64 code] t)) w.heap.size v root code := ⟨by simp [go_sem], by simp [go_sem], by simp [go_sem]⟩
theorem PO.set {w : World} {b : Nat} {v : Value} {root code : Int} (h : PO w b v root code) (v' : Value) (r' c' : Int) : PO (((w.setCell ⟨b, 0, none⟩ v').setCell ⟨b, 1, none⟩ (.int .i64 r')).setCell ⟨b, 2, none⟩ (.int .i64 c')) b v' r' c' := by
  refine ⟨?_, ?_, ?_⟩
  · rw [World.cell?_setCell_other _ _ _ _ (by simp), World.cell?_setCell_other _ _ _ _ (by simp)]
    exact World.cell?_setCell_same _ _ _ h.c0
  · rw [World.cell?_setCell_other _ _ _ _ (by simp)]
    exact World.cell?_setCell_same _ _ _ ((World.cell?_setCell_other _ _ _ _ (by simp)).trans h.c1)
  · exact World.cell?_setCell_same _ _ _ ((World.cell?_setCell_other _ _ _ _ (by simp)).trans ((World.cell?_setCell_other _ _ _ _ (by simp)).trans h.c2))

/-- The arguments stand, and nothing that W0 held has turned. -/
structure AB (w : World) (a : Option Addr) (n cap : Nat) (side : Int) (ag : Option Addr) (ng capg : Nat) (W0 wr : World) : Prop where
  ar : AR w a n cap side ag ng capg wr
  nb : Below W0.heap.size W0 wr
/-- Behind an answer: the arguments, the answer in box q, its row apart from the box, both new since W0. -/
structure AN (w : World) (a : Option Addr) (n cap : Nat) (side : Int) (ag : Option Addr) (ng capg : Nat) (W0 : World) (q : Nat) (v : Value) (root code : Int) (L : List Nd) (wr : World) : Prop where
  ab : AB w a n cap side ag ng capg W0 wr
  po : PO wr q v root code
  own : OwnN wr W0.heap.size v L
  nq : v.ownBlock ≠ some q
  hq : W0.heap.size ≤ q
  lt : q < wr.heap.size
/-- A box that waits for its answer. -/
structure ZB (w : World) (a : Option Addr) (n cap : Nat) (side : Int) (ag : Option Addr) (ng capg : Nat) (W0 : World) (q : Nat) (wr : World) : Prop where
  ab : AB w a n cap side ag ng capg W0 wr
  po : PO wr q (.slice none 0 0) 0 0
  fz : ∀ j, wr.frozen? ⟨q, j, none⟩ = false
  hq : W0.heap.size ≤ q
  lt : q < wr.heap.size
section
variable {w : World} {a : Option Addr} {n cap : Nat} {side : Int} {ag : Option Addr} {ng capg : Nat} {W0 : World} {q : Nat} {wr wr' : World}
theorem AB.below (h : AB w a n cap side ag ng capg W0 wr) (hb : Below wr.heap.size wr wr') : AB w a n cap side ag ng capg W0 wr' := ⟨h.ar.below hb, h.nb.trans (hb.mono h.nb.size)⟩
theorem AB.drew (h : AB w a n cap side ag ng capg W0 wr) : AB w a n cap side ag ng capg W0 wr.drew := h.below (Below.refl _ _).drew
theorem ZB.below (h : ZB w a n cap side ag ng capg W0 q wr) (hb : Below wr.heap.size wr wr') : ZB w a n cap side ag ng capg W0 q wr' :=
  ⟨h.ab.below hb, h.po.keep (hb.block q h.lt), fun j => (hb.frozen (p := ⟨q, j, none⟩) h.lt).trans (h.fz j), h.hq, Nat.lt_of_lt_of_le h.lt hb.size⟩
theorem ZB.made (h : AB w a n cap side ag ng capg W0 wr) : ZB w a n cap side ag ng capg W0 wr.heap.size (wr.alloc (.cells #[.slice none 0 0, .int .i64 0, .int .i64 0] 60)) :=
  ⟨h.below ((Below.refl _ _).alloc (Nat.le_refl _) _), PO.made _ _ _ _ _, fun j => by simp [go_sem], h.nb.size, by simp⟩
theorem ZB.drew (h : ZB w a n cap side ag ng capg W0 q wr) : ZB w a n cap side ag ng capg W0 q wr.drew := h.below (Below.refl _ _).drew
theorem ZB.fill {base : Nat} {v : Value} {root code : Int} {L : List Nd} (h : ZB w a n cap side ag ng capg W0 q wr) (ho : OwnN wr base v L) (hqb : q < base) (hlo : w.heap.size + 1 < W0.heap.size) : AN w a n cap side ag ng capg W0 q v root code L (((wr.setCell ⟨q, 0, none⟩ v).setCell ⟨q, 1, none⟩ (.int .i64 root)).setCell ⟨q, 2, none⟩ (.int .i64 code)) := by
  have hq := h.hq
  have hn : v.ownBlock ≠ some q := fun e => by have := (ho.lt _ e).1; omega
  have g1 := grown_set wr ⟨q, 0, none⟩ v
  have g2 := grown_set (wr.setCell ⟨q, 0, none⟩ v) ⟨q, 1, none⟩ (.int .i64 root)
  have g3 := grown_set ((wr.setCell ⟨q, 0, none⟩ v).setCell ⟨q, 1, none⟩ (.int .i64 root)) ⟨q, 2, none⟩ (.int .i64 code)
  have hg := by_trans (by_trans g1 g2) g3
  exact ⟨⟨h.ab.ar.grown hg (fun k hk => by cases hk; show _ < q; omega), h.ab.nb.grown hg h.ab.nb.size (fun k hk => by cases hk; exact hq)⟩, h.po.set _ _ _, World.ownsRow.kept (OwnN.lower (by omega) ho) hg (.inr hn), hn, hq, by have := h.lt; simp; omega⟩
theorem AN.new {base : Nat} {v : Value} {root code : Int} {L : List Nd} (h : AB w a n cap side ag ng capg W0 wr) (ho : OwnN wr base v L) (hb : W0.heap.size ≤ base) : AN w a n cap side ag ng capg W0 wr.heap.size v root code L (wr.alloc (.cells #[v, .int .i64 root, .int .i64 code] 60)) :=
  ⟨h.below ((Below.refl _ _).alloc (Nat.le_refl _) _), PO.made _ _ _ _ _, OwnN.lower hb (ho.alloc _), fun e => by have := (ho.lt _ e).2; omega, h.nb.size, by simp⟩
end
end Go.Proofs.Ytbcnfohbiagfpaa
