/- The exact law of Fill, walked for any program whose function keeps its contract. -/
import Derived.Test.YtmjbefjkkncjlaaGWalkN
import Derived.Test.YtmjbefjkkncjlaaGridF
namespace Go.Proofs.Ytmjbefjkkncjlaa
open Go.RowKit

theorem GB.grown {w w' : World} {b : Nat} {side : Int} {v : Value} {row : Option Nat} (h : GB w b side v) (hg : w.grownBy w' row) (hb : b < w.heap.size) (hne : row ≠ some b) : GB w' b side v :=
  ⟨(hg.cell_far ⟨b, 0, none⟩ hb (Ne.symm hne)).trans h.c0, (hg.cell_far ⟨b, 1, none⟩ hb (Ne.symm hne)).trans h.c1, (hg.frozen_far ⟨b, 0, none⟩ hb (Ne.symm hne)).trans h.f0, (hg.frozen_far ⟨b, 1, none⟩ hb (Ne.symm hne)).trans h.f1⟩

/-- Where the own block of a slice lies. -/
def Lies (v : Value) (lo hi : Nat) : Prop := ∀ k, v.ownBlock = some k → lo ≤ k ∧ k < hi
theorem Lies.ne {v : Value} {lo hi b : Nat} (h : Lies v lo hi) (hb : b < lo ∨ hi ≤ b) : v.ownBlock ≠ some b := fun e => by have := h b e; omega
theorem Lies.apart {v v' : Value} {lo hi lo' hi' : Nat} (h : Lies v lo hi) (h' : Lies v' lo' hi') (hd : hi ≤ lo' ∨ hi' ≤ lo) : v.ownBlock = none ∨ v.ownBlock ≠ v'.ownBlock := by
  cases e : v.ownBlock with
  | none => exact .inl rfl
  | some k =>
    refine .inr fun e' => ?_
    have i1 := h k e
    have i2 := h' k e'.symm
    omega

/-- What holds behind the first answers: the map that came in (a box), the model's answer (box b0), the map that was handed to the program (box bx), its answer (box bg). -/
structure FS (w : World) (side : Int) (a : Option Addr) (n cap : Nat) (S C : Int) (L : List Int) (V1 Vx V2 : Value) (B1 b0 Bx bx B2 bg : Nat) (wr : World) (lx lg : List Int) : Prop where
  p : GB wr w.heap.size side (.slice a n cap)
  q : GC wr b0 S V1 C
  x : GB wr bx side Vx
  g : GC wr bg S V2 C
  o1 : OwnI 2 .i64 wr B1 V1 L
  ox : OwnI 2 .i64 wr Bx Vx lx
  o2 : OwnI 2 .i64 wr B2 V2 lg
  bel : Below w.heap.size w wr
  sz : bg < wr.heap.size
  ord : w.heap.size < B1 ∧ B1 ≤ b0 ∧ b0 < Bx ∧ Bx ≤ bx ∧ bx < B2 ∧ B2 ≤ bg
  l1 : Lies V1 B1 b0
  lx : Lies Vx Bx bx
  l2 : Lies V2 B2 bg
section
variable {w : World} {side : Int} {a : Option Addr} {n cap : Nat} {S C : Int} {L : List Int} {V1 Vx V2 : Value} {B1 b0 Bx bx B2 bg : Nat} {wr wr' : World} {lx lg : List Int}
theorem FS.below (h : FS w side a n cap S C L V1 Vx V2 B1 b0 Bx bx B2 bg wr lx lg) (hb : Below wr.heap.size wr wr') : FS w side a n cap S C L V1 Vx V2 B1 b0 Bx bx B2 bg wr' lx lg := by
  have ho := h.ord
  have hz := h.sz
  exact ⟨h.p.below hb (by omega), h.q.below hb (by omega), h.x.below hb (by omega), h.g.below hb hz, h.o1.keep hb, h.ox.keep hb, h.o2.keep hb, h.bel.trans (hb.mono h.bel.size), Nat.lt_of_lt_of_le hz hb.size, ho, h.l1, h.lx, h.l2⟩
theorem FS.drew (h : FS w side a n cap S C L V1 Vx V2 B1 b0 Bx bx B2 bg wr lx lg) : FS w side a n cap S C L V1 Vx V2 B1 b0 Bx bx B2 bg wr.drew lx lg :=
  h.below (Below.refl _ _).drew
theorem FS.markX (h : FS w side a n cap S C L V1 Vx V2 B1 b0 Bx bx B2 bg wr lx lg) {lx' : List Int} (ho : OwnI 2 .i64 wr' Bx Vx lx') (hg : wr.grownBy wr' Vx.ownBlock) : FS w side a n cap S C L V1 Vx V2 B1 b0 Bx bx B2 bg wr' lx' lg := by
  have hr := h.ord
  have hz := h.sz
  refine ⟨h.p.grown hg (by omega) (h.lx.ne (by omega)), h.q.grown hg (by omega) (h.lx.ne (by omega)), h.x.grown hg (by omega) (h.lx.ne (by omega)), h.g.grown hg hz (h.lx.ne (by omega)), World.ownsRow.kept h.o1 hg (h.l1.apart h.lx (by omega)), ho, World.ownsRow.kept h.o2 hg (h.l2.apart h.lx (by omega)), h.bel.grown hg h.bel.size (fun k hk => ?_), Nat.lt_of_lt_of_le hz hg.size, hr, h.l1, h.lx, h.l2⟩
  have := (h.lx k hk).1
  omega
theorem FS.markG (h : FS w side a n cap S C L V1 Vx V2 B1 b0 Bx bx B2 bg wr lx lg) {lg' : List Int} (ho : OwnI 2 .i64 wr' B2 V2 lg') (hg : wr.grownBy wr' V2.ownBlock) : FS w side a n cap S C L V1 Vx V2 B1 b0 Bx bx B2 bg wr' lx lg' := by
  have hr := h.ord
  have hz := h.sz
  refine ⟨h.p.grown hg (by omega) (h.l2.ne (by omega)), h.q.grown hg (by omega) (h.l2.ne (by omega)), h.x.grown hg (by omega) (h.l2.ne (by omega)), h.g.grown hg hz (h.l2.ne (by omega)), World.ownsRow.kept h.o1 hg (h.l1.apart h.l2 (by omega)), World.ownsRow.kept h.ox hg (h.lx.apart h.l2 (by omega)), ho, h.bel.grown hg h.bel.size (fun k hk => ?_), Nat.lt_of_lt_of_le hz hg.size, hr, h.l1, h.lx, h.l2⟩
  have := (h.l2 k hk).1
  omega
end

theorem fillTiles_le (side : Int) (l : List Int) (x y wd ht tile : Int) : (fillTiles side l x y wd ht tile).length ≤ l.length := by
  unfold fillTiles
  split
  · rw [fillL, paint_length]; exact Nat.le_refl _
  · simp

end Go.Proofs.Ytmjbefjkkncjlaa
