/- The model's pools: a map is got out of a node. -/
import Derived.Test.YtoobkajilbmdhaaDoorTlT
import Derived.Test.YtoobkajilbmdhaaDoorGridF
import Derived.Test.YtoobkajilbmdhaaDoorPutMm
import Derived.Deep.RegionHeld3
namespace Go.Proofs.YtoobkajilbmdhaaDoor
open Go.RowKit
set_option linter.unusedVariables false
set_option linter.unusedSimpArgs false

/-- The first k tiles of the map of node root, of side 2 ^ d. -/
def getTo (l : List Nd) (d root : Nat) : Nat → List Int
  | 0 => []
  | k + 1 => getTo l d root k ++ [tileN l d root (k % 2 ^ d) (k / 2 ^ d)]
theorem getTo_len (l : List Nd) (d root k : Nat) : (getTo l d root k).length = k := by
  induction k with
  | zero => rfl
  | succ k ih => simp [getTo, ih]
/-- What l03Get answers: code, side, tiles. -/
def getG (l : List Nd) (root side : Int) : Int × Int × List Int :=
  if thereN l.length root then
    (if (hts l).getD root.toNat 0 ≤ (dbl side.toNat : Int) then (0, side, getTo l (dbl side.toNat) root.toNat (side.toNat * side.toNat)) else (8, 0, []))
  else (6, 0, [])
/-- What PoolGet answers. -/
def getP (l : List Nd) (root side : Int) : Int × Int × List Int := if poolRight l && sideOk side then getG l root side else (1, 0, [])
theorem getG_len (l : List Nd) (root side : Int) (h : sideOk side = true) : (getG l root side).2.2.length ≤ 64 := by
  unfold getG
  split
  · split
    · simp only [getTo_len]
      rcases (sideOk_iff side).1 h with rfl | rfl | rfl | rfl <;> decide
    · simp
  · simp
theorem getP_len (l : List Nd) (root side : Int) : (getP l root side).2.2.length ≤ 64 := by
  unfold getP
  split
  · next h =>
    rw [Bool.and_eq_true] at h
    exact getG_len l root side h.2
  · simp

/-- While the map grows: the pool in its box, the box to hand back, the map in box q with its row. -/
structure GI (w : World) (A : Option Addr) (c : Nat) (l : List Nd) (q : Nat) (side : Int) (v : Value) (T : List Int) (wr : World) : Prop where
  pb : PB w A c l wr
  res : GO wr (w.heap.size + 1)
  m : GB wr q side v
  own : OwnI 2 .i64 wr q v T
  siz : w.heap.size + 1 < q ∧ q < wr.heap.size
  ap : v.ownBlock ≠ some q
section
variable {w : World} {A : Option Addr} {c : Nat} {l : List Nd} {q : Nat} {side : Int} {v : Value} {T : List Int} {wr wr' : World}
theorem GI.below (h : GI w A c l q side v T wr) (hb : Below wr.heap.size wr wr') : GI w A c l q side v T wr' := by
  obtain ⟨z1, z2⟩ := h.siz
  exact ⟨h.pb.below hb, h.res.below hb (by omega), h.m.below hb z2, h.own.keep hb, ⟨z1, Nat.lt_of_lt_of_le z2 hb.size⟩, h.ap⟩
theorem GI.drew (h : GI w A c l q side v T wr) : GI w A c l q side v T wr.drew := h.below (Below.refl _ _).drew
theorem GI.push {g n cc : Nat} {T' : List Int} (h : GI w A c l q side v T wr) (ho : OwnI 2 .i64 wr' q (.slice (some ⟨g, 0, none⟩) n cc) T') (hg : wr.grownBy wr' v.ownBlock) (hl : v.ownBlock = some g ∨ g = wr.heap.size) :
    GI w A c l q side (.slice (some ⟨g, 0, none⟩) n cc) T' (wr'.setCell ⟨q, 1, none⟩ (.slice (some ⟨g, 0, none⟩) n cc)) := by
  obtain ⟨z1, z2⟩ := h.siz
  have hgq : g ≠ q := by
    rcases hl with hl | hl
    · intro e; exact h.ap (by rw [hl, e])
    · omega
  have hlo := fun k hk => (World.ownsRow.lt h.own k hk).1
  have hb : Below (w.heap.size + 1 + 1) wr (wr'.setCell ⟨q, 1, none⟩ (.slice (some ⟨g, 0, none⟩) n cc)) :=
    ((Below.refl (w.heap.size + 1 + 1) wr).grown hg (by omega) (fun k hk => by have := hlo k hk; omega)).setCell (by show w.heap.size + 1 + 1 ≤ q; omega) _
  have hm : GB wr' q side v := ⟨(World.cell?_of_block (a := ⟨q, 0, none⟩) (hg.block q z2 (fun e => h.ap e.symm))).trans h.m.c0, (World.cell?_of_block (a := ⟨q, 1, none⟩) (hg.block q z2 (fun e => h.ap e.symm))).trans h.m.c1, (World.frozen?_of_block (a := ⟨q, 0, none⟩) (hg.block q z2 (fun e => h.ap e.symm))).trans h.m.f0, (World.frozen?_of_block (a := ⟨q, 1, none⟩) (hg.block q z2 (fun e => h.ap e.symm))).trans h.m.f1⟩
  refine ⟨⟨(hb.cell (p := ⟨w.heap.size, 0, none⟩) (by show w.heap.size < _; omega)).trans h.pb.c0, h.pb.ri.below (hb.mono (by omega)), h.pb.bel.trans (hb.mono (by omega)), Nat.lt_of_lt_of_le h.pb.siz hb.size⟩, h.res.below hb (by omega), hm.set1 _, World.ownsRow.kept ho ⟨rfl, rfl, rfl, by simp, fun k _ hk => heap_setCell_other wr' ⟨q, 1, none⟩ k _ (fun e => hk (by rw [e]))⟩ (.inr (by simpa [Value.ownBlock] using hgq)), ⟨z1, by have := hg.size; simp; omega⟩, by simpa [Value.ownBlock] using hgq⟩
end
end Go.Proofs.YtoobkajilbmdhaaDoor
