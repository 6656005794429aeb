/- Several texts in one: GWalkN, GWalkF, GWalkS, ChL, Items, NodeX, ItemsP. -/
import Derived.Test.YtoobkajilbmdhaaDoorGWalk
import Derived.StillTailTactics
import Derived.Test.YtoobkajilbmdhaaDoorGridF
import Derived.Test.YtoobkajilbmdhaaDoorGridL
import Derived.BigQuiet
import Derived.BigRegion
import Derived.Deep.Onto
import Derived.Deep.RegionWith
import Derived.Deep.RegionLaw
import Derived.Test.YtoobkajilbmdhaaDoorNodeW
import Derived.Test.YtoobkajilbmdhaaDoorPutMm
namespace Go.Proofs.YtoobkajilbmdhaaDoor
open Go.RowKit

/-- Block b holds the fields of a map that was handed back. -/
structure GC (w : World) (b : Nat) (side : Int) (v : Value) (code : Int) : Prop where
  c0 : w.cell? ⟨b, 0, none⟩ = some (.int .i64 side)
  c1 : w.cell? ⟨b, 1, none⟩ = some v
  c2 : w.cell? ⟨b, 2, none⟩ = some (.int .i64 code)
theorem GC.below {w w' : World} {b B : Nat} {side code : Int} {v : Value} (h : GC w b side v code) (hb : Below B w w') (hB : b < B) : GC w' b side v code :=
  ⟨(hb.cell (p := ⟨b, 0, none⟩) hB).trans h.c0, (hb.cell (p := ⟨b, 1, none⟩) hB).trans h.c1, (hb.cell (p := ⟨b, 2, none⟩) hB).trans h.c2⟩
theorem GC.grown {w w' : World} {b : Nat} {side code : Int} {v : Value} {row : Option Nat} (h : GC w b side v code) (hg : w.grownBy w' row) (hb : b < w.heap.size) (hne : row ≠ some b) : GC w' b side v code :=
  ⟨(hg.cell_far ⟨b, 0, none⟩ hb (Ne.symm hne)).trans h.c0, (hg.cell_far ⟨b, 1, none⟩ hb (Ne.symm hne)).trans h.c1, (hg.cell_far ⟨b, 2, none⟩ hb (Ne.symm hne)).trans h.c2⟩
theorem GC.drew {w : World} {b : Nat} {side code : Int} {v : Value} (h : GC w b side v code) : GC w.drew b side v code := ⟨h.c0, h.c1, h.c2⟩
theorem GC.made (w : World) (side code : Int) (v : Value) (t : TypeId) : GC (w.alloc (.cells #[.int .i64 side, v, .int .i64 code] t)) w.heap.size side v code :=
  ⟨by simp [go_sem], by simp [go_sem], by simp [go_sem]⟩

theorem newTiles_le (side tile : Int) : (newTiles side tile).length ≤ 64 := by
  unfold newTiles
  split
  · next h =>
    rw [Bool.and_eq_true] at h
    rcases (sideOk_iff side).1 h.1 with rfl | rfl | rfl | rfl <;> simp
  · simp

end Go.Proofs.YtoobkajilbmdhaaDoor

namespace Go.Proofs.YtoobkajilbmdhaaDoor
open Go.RowKit

theorem GB.grown {w w' : World} {b : Nat} {side : Int} {v : Value} {row : Option Nat} (h : GB w b side v) (hg : w.grownBy w' row) (hb : b < w.heap.size) (hne : row ≠ some b) : GB w' b side v :=
  ⟨(hg.cell_far ⟨b, 0, none⟩ hb (Ne.symm hne)).trans h.c0, (hg.cell_far ⟨b, 1, none⟩ hb (Ne.symm hne)).trans h.c1, (hg.frozen_far ⟨b, 0, none⟩ hb (Ne.symm hne)).trans h.f0, (hg.frozen_far ⟨b, 1, none⟩ hb (Ne.symm hne)).trans h.f1⟩

/-- Where the own block of a slice lies. -/
def Lies (v : Value) (lo hi : Nat) : Prop := ∀ k, v.ownBlock = some k → lo ≤ k ∧ k < hi
theorem Lies.ne {v : Value} {lo hi b : Nat} (h : Lies v lo hi) (hb : b < lo ∨ hi ≤ b) : v.ownBlock ≠ some b := fun e => by have := h b e; omega
theorem Lies.apart {v v' : Value} {lo hi lo' hi' : Nat} (h : Lies v lo hi) (h' : Lies v' lo' hi') (hd : hi ≤ lo' ∨ hi' ≤ lo) : v.ownBlock = none ∨ v.ownBlock ≠ v'.ownBlock := by
  cases e : v.ownBlock with
  | none => exact .inl rfl
  | some k =>
    refine .inr fun e' => ?_
    have i1 := h k e
    have i2 := h' k e'.symm
    omega

/-- What holds behind the first answers: the map that came in (a box), the model's answer (box b0), the map that was handed to the program (box bx), its answer (box bg). -/
structure FS (w : World) (side : Int) (a : Option Addr) (n cap : Nat) (S C : Int) (L : List Int) (V1 Vx V2 : Value) (B1 b0 Bx bx B2 bg : Nat) (wr : World) (lx lg : List Int) : Prop where
  p : GB wr w.heap.size side (.slice a n cap)
  q : GC wr b0 S V1 C
  x : GB wr bx side Vx
  g : GC wr bg S V2 C
  o1 : OwnI 2 .i64 wr B1 V1 L
  ox : OwnI 2 .i64 wr Bx Vx lx
  o2 : OwnI 2 .i64 wr B2 V2 lg
  bel : Below w.heap.size w wr
  sz : bg < wr.heap.size
  ord : w.heap.size < B1 ∧ B1 ≤ b0 ∧ b0 < Bx ∧ Bx ≤ bx ∧ bx < B2 ∧ B2 ≤ bg
  l1 : Lies V1 B1 b0
  lx : Lies Vx Bx bx
  l2 : Lies V2 B2 bg
section
variable {w : World} {side : Int} {a : Option Addr} {n cap : Nat} {S C : Int} {L : List Int} {V1 Vx V2 : Value} {B1 b0 Bx bx B2 bg : Nat} {wr wr' : World} {lx lg : List Int}
theorem FS.below (h : FS w side a n cap S C L V1 Vx V2 B1 b0 Bx bx B2 bg wr lx lg) (hb : Below wr.heap.size wr wr') : FS w side a n cap S C L V1 Vx V2 B1 b0 Bx bx B2 bg wr' lx lg := by
  have ho := h.ord
  have hz := h.sz
  exact ⟨h.p.below hb (by omega), h.q.below hb (by omega), h.x.below hb (by omega), h.g.below hb hz, h.o1.keep hb, h.ox.keep hb, h.o2.keep hb, h.bel.trans (hb.mono h.bel.size), Nat.lt_of_lt_of_le hz hb.size, ho, h.l1, h.lx, h.l2⟩
theorem FS.drew (h : FS w side a n cap S C L V1 Vx V2 B1 b0 Bx bx B2 bg wr lx lg) : FS w side a n cap S C L V1 Vx V2 B1 b0 Bx bx B2 bg wr.drew lx lg :=
  h.below (Below.refl _ _).drew
theorem FS.markX (h : FS w side a n cap S C L V1 Vx V2 B1 b0 Bx bx B2 bg wr lx lg) {lx' : List Int} (ho : OwnI 2 .i64 wr' Bx Vx lx') (hg : wr.grownBy wr' Vx.ownBlock) : FS w side a n cap S C L V1 Vx V2 B1 b0 Bx bx B2 bg wr' lx' lg := by
  have hr := h.ord
  have hz := h.sz
  refine ⟨h.p.grown hg (by omega) (h.lx.ne (by omega)), h.q.grown hg (by omega) (h.lx.ne (by omega)), h.x.grown hg (by omega) (h.lx.ne (by omega)), h.g.grown hg hz (h.lx.ne (by omega)), World.ownsRow.kept h.o1 hg (h.l1.apart h.lx (by omega)), ho, World.ownsRow.kept h.o2 hg (h.l2.apart h.lx (by omega)), h.bel.grown hg h.bel.size (fun k hk => ?_), Nat.lt_of_lt_of_le hz hg.size, hr, h.l1, h.lx, h.l2⟩
  have := (h.lx k hk).1
  omega
theorem FS.markG (h : FS w side a n cap S C L V1 Vx V2 B1 b0 Bx bx B2 bg wr lx lg) {lg' : List Int} (ho : OwnI 2 .i64 wr' B2 V2 lg') (hg : wr.grownBy wr' V2.ownBlock) : FS w side a n cap S C L V1 Vx V2 B1 b0 Bx bx B2 bg wr' lx lg' := by
  have hr := h.ord
  have hz := h.sz
  refine ⟨h.p.grown hg (by omega) (h.l2.ne (by omega)), h.q.grown hg (by omega) (h.l2.ne (by omega)), h.x.grown hg (by omega) (h.l2.ne (by omega)), h.g.grown hg hz (h.l2.ne (by omega)), World.ownsRow.kept h.o1 hg (h.l1.apart h.l2 (by omega)), World.ownsRow.kept h.ox hg (h.lx.apart h.l2 (by omega)), ho, h.bel.grown hg h.bel.size (fun k hk => ?_), Nat.lt_of_lt_of_le hz hg.size, hr, h.l1, h.lx, h.l2⟩
  have := (h.l2 k hk).1
  omega
end

def FillDoes : Prop := ∀ (side x y wd ht tile : Int) (A : Option Addr) (c : Nat) (l : List Int) (w : World), In64 side ∧ (∀ n ∈ l, In64 n) → In64 x → In64 y → In64 wd → In64 ht → In64 tile → RI w w.heap.size A l → l.length ≤ 1048576 → Calls Tryd.prog 78 #[.agg #[.int .i64 side, .slice A l.length c], .int .i64 x, .int .i64 y, .int .i64 wd, .int .i64 ht, .int .i64 tile] w fun e w' => GOut w w' (fillSide side l x y wd ht tile) (fillTiles side l x y wd ht tile) (fillCode side l x y wd ht tile) e
theorem fillTiles_le (side : Int) (l : List Int) (x y wd ht tile : Int) : (fillTiles side l x y wd ht tile).length ≤ l.length := by
  unfold fillTiles
  split
  · rw [fillL, paint_length]; exact Nat.le_refl _
  · simp

end Go.Proofs.YtoobkajilbmdhaaDoor

namespace Go.Proofs.YtoobkajilbmdhaaDoor
open Go.RowKit

/-- The two maps that came in stand in their boxes. -/
structure PP (w : World) (side side' : Int) (v v' : Value) (wr : World) : Prop where
  p : GB wr w.heap.size side v
  p' : GB wr (w.heap.size + 1) side' v'
  bel : Below w.heap.size w wr
  sz : w.heap.size + 1 < wr.heap.size
theorem PP.below {w : World} {side side' : Int} {v v' : Value} {wr wr' : World} (h : PP w side side' v v' wr) (hb : Below wr.heap.size wr wr') : PP w side side' v v' wr' :=
  ⟨h.p.below hb (by have := h.sz; omega), h.p'.below hb h.sz, h.bel.trans (hb.mono h.bel.size), Nat.lt_of_lt_of_le h.sz hb.size⟩
theorem PP.drew {w : World} {side side' : Int} {v v' : Value} {wr : World} (h : PP w side side' v v' wr) : PP w side side' v v' wr.drew := h.below (Below.refl _ _).drew

theorem RI.below' {w w' : World} {A : Option Addr} {l : List Int} (h : RI w w.heap.size A l) (hb : Below w.heap.size w w') : RI w' w'.heap.size A l := (h.below hb).mono hb.size
def sliceA : Value → Option Addr | .slice A _ _ => A | _ => none
/-- Behind the program's answer: the boxes of both maps that were handed to it as well. -/
structure XX (w : World) (side side' : Int) (v v' vx vy : Value) (bx by' : Nat) (l l' : List Int) (wr : World) : Prop where
  pp : PP w side side' v v' wr
  x : GB wr bx side vx
  y : GB wr by' side' vy
  ox : RI wr wr.heap.size (sliceA vx) l
  oy : RI wr wr.heap.size (sliceA vy) l'
  hx : bx < wr.heap.size
  hy : by' < wr.heap.size
theorem XX.below {w : World} {side side' : Int} {v v' vx vy : Value} {bx by' : Nat} {l l' : List Int} {wr wr' : World} (h : XX w side side' v v' vx vy bx by' l l' wr) (hb : Below wr.heap.size wr wr') : XX w side side' v v' vx vy bx by' l l' wr' :=
  ⟨h.pp.below hb, h.x.below hb h.hx, h.y.below hb h.hy, h.ox.below' hb, h.oy.below' hb, Nat.lt_of_lt_of_le h.hx hb.size, Nat.lt_of_lt_of_le h.hy hb.size⟩
theorem XX.drew {w : World} {side side' : Int} {v v' vx vy : Value} {bx by' : Nat} {l l' : List Int} {wr : World} (h : XX w side side' v v' vx vy bx by' l l' wr) : XX w side side' v v' vx vy bx by' l l' wr.drew := h.below (Below.refl _ _).drew

end Go.Proofs.YtoobkajilbmdhaaDoor

namespace Go.Proofs.YtoobkajilbmdhaaDoor
open Go.RowKit
set_option linter.unusedVariables false

/-- A Change. -/
structure Ch where
  x : Int
  y : Int
  o : Int
  n : Int
theorem Ch.eq_iff (a b : Ch) : a = b ↔ a.x = b.x ∧ a.y = b.y ∧ a.o = b.o ∧ a.n = b.n := by
  constructor
  · rintro rfl; exact ⟨rfl, rfl, rfl, rfl⟩
  · obtain ⟨nx, ny, no, nn⟩ := a
    obtain ⟨nx', ny', no', nn'⟩ := b
    rintro ⟨h0, h1, h2, h3⟩
    simp only at h0 h1 h2 h3
    subst h0 h1 h2 h3
    rfl
instance : DecidableEq Ch := fun a b => decidable_of_iff _ (Ch.eq_iff a b).symm
instance : Inhabited Ch := ⟨⟨0, 0, 0, 0⟩⟩
def Ch.val (n : Ch) : Value := .agg #[.int .i64 n.x, .int .i64 n.y, .int .i64 n.o, .int .i64 n.n]
def Ch.Fits (n : Ch) : Prop := (Lit.int .i64 n.x).wf = true ∧ (Lit.int .i64 n.y).wf = true ∧ (Lit.int .i64 n.o).wf = true ∧ (Lit.int .i64 n.n).wf = true
/-- The cells from o on hold n. -/
structure ChAt (w : World) (b o : Nat) (n : Ch) : Prop where
  c0 : w.cell? ⟨b, o, none⟩ = some (.int .i64 n.x)
  c1 : w.cell? ⟨b, o + 1, none⟩ = some (.int .i64 n.y)
  c2 : w.cell? ⟨b, o + 2, none⟩ = some (.int .i64 n.o)
  c3 : w.cell? ⟨b, o + 3, none⟩ = some (.int .i64 n.n)
theorem ChAt.parts {w : World} {b o : Nat} {n : Ch} (h : ChAt w b o n) : w.cell? ⟨b, o, none⟩ = some (.int .i64 n.x) ∧ w.cell? ⟨b, o + 1, none⟩ = some (.int .i64 n.y) ∧ w.cell? ⟨b, o + 2, none⟩ = some (.int .i64 n.o) ∧ w.cell? ⟨b, o + 3, none⟩ = some (.int .i64 n.n) := ⟨h.c0, h.c1, h.c2, h.c3⟩
/-- A list that can be read below block B. -/
def RCh (w : World) (B : Nat) (A : Option Addr) (l : List Ch) : Prop := l = [] ∨ ∃ b off, A = some ⟨b, off, none⟩ ∧ b < B ∧ ∀ j (h : j < l.length), ChAt w b (off + j * 4) l[j]
theorem ChAt.keep {w w' : World} {b o : Nat} {n : Ch} (h : ChAt w b o n) (hc : w'.heap[b]? = w.heap[b]?) : ChAt w' b o n :=
  ⟨(World.cell?_of_block (w := w) (a := ⟨b, o, none⟩) hc).trans h.c0, (World.cell?_of_block (w := w) (a := ⟨b, o + 1, none⟩) hc).trans h.c1, (World.cell?_of_block (w := w) (a := ⟨b, o + 2, none⟩) hc).trans h.c2, (World.cell?_of_block (w := w) (a := ⟨b, o + 3, none⟩) hc).trans h.c3⟩
theorem RCh.keep {w w' : World} {B : Nat} {A : Option Addr} {l : List Ch} (h : RCh w B A l) (hc : ∀ k, k < B → w'.heap[k]? = w.heap[k]?) : RCh w' B A l := by
  rcases h with h | ⟨b, off, rfl, hb, hn⟩
  · exact .inl h
  · exact .inr ⟨b, off, rfl, hb, fun j hj => (hn j hj).keep (hc b hb)⟩
theorem RCh.below {w w' : World} {B : Nat} {A : Option Addr} {l : List Ch} (h : RCh w B A l) (hb : Below B w w') : RCh w' B A l := h.keep fun k hk => hb.block k hk
theorem RCh.mono {w : World} {B B' : Nat} {A : Option Addr} {l : List Ch} (h : RCh w B A l) (hB : B ≤ B') : RCh w B' A l := by
  rcases h with h | ⟨b, off, rfl, hb, hn⟩
  · exact .inl h
  · exact .inr ⟨b, off, rfl, by omega, hn⟩
theorem RCh.still {w w' : World} {B : Nat} {A : Option Addr} {l : List Ch} (h : RCh w B A l) (hs : Still w w') : RCh w' B A l := h.keep fun k _ => by rw [hs.1]
theorem RCh.at_ {w : World} {B j : Nat} {A : Option Addr} {l : List Ch} (h : RCh w B A l) (hj : j < l.length) : ∃ b off, A = some ⟨b, off, none⟩ ∧ b < B ∧ ChAt w b (off + j * 4) l[j] := by
  rcases h with h | ⟨b, off, rfl, hb, hn⟩
  · subst h; simp at hj
  · exact ⟨b, off, rfl, hb, hn j hj⟩

def Ch.cells (n : Ch) : List Value := [.int .i64 n.x, .int .i64 n.y, .int .i64 n.o, .int .i64 n.n]
def zeroCh : Ch := ⟨0, 0, 0, 0⟩
theorem flatCh_len (l : List Ch) : (l.flatMap Ch.cells).length = l.length * 4 := by
  induction l with
  | nil => rfl
  | cons x xs ih => simp only [List.flatMap_cons, List.length_append, ih, List.length_cons]; simp [Ch.cells]; omega
theorem flatCh_get : ∀ (l : List Ch) (j i : Nat) (hj : j < l.length), i < 4 → (l.flatMap Ch.cells)[j * 4 + i]? = (l[j].cells)[i]?
  | [], j, i, hj, _ => by simp at hj
  | x :: xs, 0, i, _, hi => by
    simp only [List.flatMap_cons, Nat.zero_mul, Nat.zero_add, List.getElem_cons_zero]
    rw [List.getElem?_append_left (by simpa [Ch.cells] using hi)]
  | x :: xs, j + 1, i, hj, hi => by
    simp only [List.flatMap_cons, List.getElem_cons_succ]
    have e : (j + 1) * 4 + i = x.cells.length + (j * 4 + i) := by simp [Ch.cells]; omega
    rw [e, List.getElem?_append_right (by omega), Nat.add_sub_cancel_left]
    exact flatCh_get xs j i (by simpa using hj) hi
def setCh (L : List Value) (o : Nat) (x : Ch) : List Value := ((((L.set (o) (.int .i64 x.x)).set (o + 1) (.int .i64 x.y)).set (o + 2) (.int .i64 x.o)).set (o + 3) (.int .i64 x.n))
theorem flatCh_set : ∀ (l : List Ch) (j : Nat) (x : Ch), j < l.length → setCh (l.flatMap Ch.cells) (j * 4) x = (l.set j x).flatMap Ch.cells
  | [], j, x, hj => by simp at hj
  | y :: ys, 0, x, _ => by simp [setCh, Ch.cells]
  | y :: ys, j + 1, x, hj => by
    have ih := flatCh_set ys j x (by simpa using hj)
    simp only [List.flatMap_cons, List.set_cons_succ, ← ih]
    have hlen : y.cells.length = 4 := rfl
    unfold setCh
    rw [List.set_append_right _ _ (by omega), List.set_append_right _ _ (by omega), List.set_append_right _ _ (by omega), List.set_append_right _ _ (by omega), hlen]
    rw [show (j + 1) * 4 - 4 = j * 4 by omega, show (j + 1) * 4 + 1 - 4 = j * 4 + 1 by omega, show (j + 1) * 4 + 2 - 4 = j * 4 + 2 by omega, show (j + 1) * 4 + 3 - 4 = j * 4 + 3 by omega]
theorem flatCh_zeros (n : Nat) : (madeCells #[.int .i64 0, .int .i64 0, .int .i64 0, .int .i64 0] (n * 4)).toList = (List.replicate n zeroCh).flatMap Ch.cells := by
  have h1 : (madeCells #[Value.int .i64 0, .int .i64 0, .int .i64 0, .int .i64 0] (n * 4)).toList = List.replicate (n * 4) (.int .i64 0) := by
    rw [List.eq_replicate_iff]
    refine ⟨by simp [madeCells], fun v hv => ?_⟩
    simp only [madeCells, Array.toList_map, List.mem_map] at hv
    obtain ⟨j, _, rfl⟩ := hv
    have h5 : j % 4 = 0 ∨ j % 4 = 1 ∨ j % 4 = 2 ∨ j % 4 = 3 := by omega
    show (#[Value.int .i64 0, .int .i64 0, .int .i64 0, .int .i64 0] : Array Value)[j % 4]! = _
    rcases h5 with h | h | h | h <;> rw [h] <;> rfl
  have h2 : (List.replicate n zeroCh).flatMap Ch.cells = List.replicate (n * 4) (.int .i64 0) := by
    rw [List.eq_replicate_iff]
    refine ⟨by rw [flatCh_len]; simp, fun v hv => ?_⟩
    obtain ⟨x, hx, hv⟩ := List.mem_flatMap.1 hv
    rw [List.eq_of_mem_replicate hx] at hv
    simp [Ch.cells, zeroCh] at hv
    exact hv
  rw [h1, h2]

def putCh (w : World) (g o : Nat) (x : Ch) : World := ((((w.setCell ⟨g, o, none⟩ (.int .i64 x.x)).setCell ⟨g, o + 1, none⟩ (.int .i64 x.y)).setCell ⟨g, o + 2, none⟩ (.int .i64 x.o)).setCell ⟨g, o + 3, none⟩ (.int .i64 x.n))
theorem copied_stepCh (l : List Ch) (k : Nat) (hk : k < l.length) : (l.take k ++ List.replicate (l.length - k) zeroCh).set k l[k] = l.take (k + 1) ++ List.replicate (l.length - (k + 1)) zeroCh := by
  have hl : (l.take k).length = k := by simp; omega
  have e : l.length - k = (l.length - (k + 1)) + 1 := by omega
  rw [List.set_append_right _ _ (by omega), hl, Nat.sub_self, e, List.replicate_succ, List.set_cons_zero, List.take_succ_eq_append_getElem hk, List.append_assoc]
  rfl
def markCh (k : Nat) : Ch := ⟨(k : Int), (k : Int) + 1, (k : Int) + 2, (k : Int) + 3⟩
def marksCh (k n : Nat) : List Ch := (List.range n).map fun i => markCh (k + 4 * i)
theorem marksCh_length (k n : Nat) : (marksCh k n).length = n := by simp [marksCh]
theorem marksCh_get (k n i : Nat) (h : i < (marksCh k n).length) : (marksCh k n)[i] = markCh (k + 4 * i) := by simp [marksCh]
theorem markedCh_step (l : List Ch) (k j : Nat) (hj : j < l.length) : ((marksCh k l.length).take j ++ l.drop j).set j (markCh (k + 4 * j)) = (marksCh k l.length).take (j + 1) ++ l.drop (j + 1) := by
  have hm : j < (marksCh k l.length).length := by rw [marksCh_length]; exact hj
  have hl : ((marksCh k l.length).take j).length = j := by simp [marksCh_length]; omega
  rw [List.set_append_right _ _ (by omega), hl, Nat.sub_self, List.drop_eq_getElem_cons hj, List.set_cons_zero, List.take_succ_eq_append_getElem hm, marksCh_get, List.append_assoc]
  rfl

theorem newsCh {w : World} {b : Nat} {x : Ch} (h : ChAt w b 0 x) : ∀ j u, x.cells[j]? = some u → w.cell? ((⟨b, 0, none⟩ : Addr).add j) = some u := by
  have e : ∀ i, (⟨b, 0, none⟩ : Addr).add i = ⟨b, i, none⟩ := fun i => by unfold Addr.add; split <;> simp_all
  intro j u hu
  obtain ⟨hj, rfl⟩ := List.getElem?_eq_some_iff.1 hu
  rw [e]
  obtain ⟨c0, c1, c2, c3⟩ := h
  simp only [Nat.zero_add] at c0 c1 c2 c3
  have h5 : j = 0 ∨ j = 1 ∨ j = 2 ∨ j = 3 := by simp [Ch.cells] at hj; omega
  rcases h5 with rfl | rfl | rfl | rfl
  · exact c0
  · exact c1
  · exact c2
  · exact c3
end Go.Proofs.YtoobkajilbmdhaaDoor

namespace Go.Proofs.YtoobkajilbmdhaaDoor
open Go.RowKit
set_option linter.unusedVariables false

/-- A fact on the memory that hangs on the blocks lo .. hi alone. -/
structure It where
  lo : Nat
  hi : Nat
  P : World → Prop
  keep : ∀ w w' : World, (∀ k, lo ≤ k → k < hi → w'.heap[k]? = w.heap[k]?) → P w → P w'
/-- All of these hold, each in blocks of its own (the last one made stands first), and below w0's memory nothing has turned. -/
structure St (w0 : World) (L : List It) (w : World) : Prop where
  bel : Below w0.heap.size w0 w
  ord : L.Pairwise fun a b => b.hi ≤ a.lo
  lo : ∀ it ∈ L, w0.heap.size ≤ it.lo
  hi : ∀ it ∈ L, it.hi ≤ w.heap.size
  all : ∀ it ∈ L, it.P w
theorem St.start (w : World) : St w [] w := ⟨Below.refl _ _, List.Pairwise.nil, by simp, by simp, by simp⟩
theorem St.below {w0 w w' : World} {L : List It} (h : St w0 L w) (hb : Below w.heap.size w w') : St w0 L w' :=
  ⟨h.bel.trans (hb.mono h.bel.size), h.ord, h.lo, fun it hm => Nat.le_trans (h.hi it hm) hb.size, fun it hm => it.keep w w' (fun k _ hk => hb.block k (Nat.lt_of_lt_of_le hk (h.hi it hm))) (h.all it hm)⟩
theorem St.drew {w0 w : World} {L : List It} (h : St w0 L w) : St w0 L w.drew := h.below (Below.refl _ _).drew
theorem St.push {w0 w w' : World} {L : List It} (h : St w0 L w) (hb : Below w.heap.size w w') (it : It) (h1 : w.heap.size ≤ it.lo) (h2 : it.hi ≤ w'.heap.size) (hp : it.P w') : St w0 (it :: L) w' := by
  have h' := h.below hb
  refine ⟨h'.bel, List.Pairwise.cons (fun b hm => Nat.le_trans (h.hi b hm) h1) h.ord, fun x hx => ?_, fun x hx => ?_, fun x hx => ?_⟩
  · rcases List.mem_cons.1 hx with rfl | hx
    · exact Nat.le_trans h.bel.size h1
    · exact h.lo x hx
  · rcases List.mem_cons.1 hx with rfl | hx
    · exact h2
    · exact h'.hi x hx
  · rcases List.mem_cons.1 hx with rfl | hx
    · exact hp
    · exact h'.all x hx
theorem St.get {w0 w : World} {L : List It} (h : St w0 L w) (i : Nat) {it : It} (hi : L[i]? = some it) : it.P w := h.all it (List.mem_of_getElem? hi)
theorem St.szi {w0 w : World} {L : List It} (h : St w0 L w) (i : Nat) {it : It} (hi : L[i]? = some it) : it.hi ≤ w.heap.size := h.hi it (List.mem_of_getElem? hi)
/-- From w to w' nothing outside of the blocks lo .. hi has turned, but for new ones. -/
structure Only (lo hi : Nat) (w w' : World) : Prop where
  os : w'.os = w.os
  tape : w'.tape = w.tape
  output : w'.output = w.output
  size : w.heap.size ≤ w'.heap.size
  block : ∀ k, k < w.heap.size → k < lo ∨ hi ≤ k → w'.heap[k]? = w.heap[k]?
theorem Only.grown {lo hi : Nat} {w w' : World} {row : Option Nat} (hg : w.grownBy w' row) (hr : ∀ k, row = some k → lo ≤ k ∧ k < hi) : Only lo hi w w' :=
  ⟨hg.os, hg.tape, hg.output, hg.size, fun k hk ho => hg.block k hk fun e => by have := hr k e.symm; omega⟩
theorem Only.trans {lo hi : Nat} {a b c : World} (h : Only lo hi a b) (k : Only lo hi b c) : Only lo hi a c :=
  ⟨k.os.trans h.os, k.tape.trans h.tape, k.output.trans h.output, Nat.le_trans h.size k.size, fun i hi ho => (k.block i (Nat.lt_of_lt_of_le hi h.size) ho).trans (h.block i hi ho)⟩
/-- One thing turns, in its own blocks. -/
theorem St.turn {w0 w w' : World} {L : List It} (h : St w0 L w) (i : Nat) {it : It} (it' : It) (hi : L[i]? = some it) (hl : it'.lo = it.lo) (hh : it'.hi = it.hi) (ho : Only it.lo it.hi w w') (hp : it'.P w') : St w0 (L.set i it') w' := by
  obtain ⟨hil, rfl⟩ := List.getElem?_eq_some_iff.1 hi
  have hmi : L[i] ∈ L := List.getElem_mem hil
  have hpw := List.pairwise_iff_getElem.1 h.ord
  refine ⟨⟨ho.os.trans h.bel.os, ho.tape.trans h.bel.tape, ho.output.trans h.bel.output, Nat.le_trans h.bel.size ho.size, fun k hk => (ho.block k (Nat.lt_of_lt_of_le hk h.bel.size) (.inl (Nat.lt_of_lt_of_le hk (h.lo _ hmi)))).trans (h.bel.block k hk)⟩, ?_, ?_, ?_, ?_⟩
  · rw [List.pairwise_iff_getElem]
    intro a b ha hb hab
    simp only [List.length_set] at ha hb
    rw [List.getElem_set, List.getElem_set]
    by_cases ea : i = a
    · by_cases eb : i = b
      · omega
      · rw [if_pos ea, if_neg eb, hl]
        subst ea
        exact hpw _ _ _ _ hab
    · by_cases eb : i = b
      · rw [if_neg ea, if_pos eb, hh]
        subst eb
        exact hpw _ _ _ _ hab
      · rw [if_neg ea, if_neg eb]
        exact hpw _ _ _ _ hab
  · intro x hx
    rcases List.mem_or_eq_of_mem_set hx with hx | rfl
    · exact h.lo x hx
    · rw [hl]; exact h.lo _ hmi
  · intro x hx
    rcases List.mem_or_eq_of_mem_set hx with hx | rfl
    · exact Nat.le_trans (h.hi x hx) ho.size
    · rw [hh]; exact Nat.le_trans (h.hi _ hmi) ho.size
  · intro x hx
    obtain ⟨j, hj, rfl⟩ := List.getElem_of_mem hx
    simp only [List.length_set] at hj
    rw [List.getElem_set]
    by_cases e : i = j
    · rw [if_pos e]; exact hp
    · rw [if_neg e]
      refine L[j].keep w w' (fun k h1 h2 => ho.block k (Nat.lt_of_lt_of_le h2 (h.hi _ (List.getElem_mem hj))) ?_) (h.all _ (List.getElem_mem hj))
      rcases Nat.lt_or_ge i j with hij | hij
      · left; exact Nat.lt_of_lt_of_le h2 (hpw i j hil hj hij)
      · right; exact Nat.le_trans (hpw j i hj hil (by omega)) h1

theorem ownsRow_at {w w' : World} {base : Nat} {e : TypeId} {size n lo hi : Nat} {v : Value} {xs : List Value} (h : w.ownsRow base e size v n xs) (hl : Lies v lo hi) (hk : ∀ k, lo ≤ k → k < hi → w'.heap[k]? = w.heap[k]?) : w'.ownsRow base e size v n xs := by
  refine ⟨h.1, ?_⟩
  rcases h.2 with hn | ⟨g, cap, cur, rfl, hb, hgg, rest⟩
  · exact .inl hn
  · obtain ⟨h1, h2⟩ := hl g rfl
    exact .inr ⟨g, cap, cur, rfl, hb, (hk g h1 h2).trans hgg, rest⟩
theorem cell_at {w w' : World} {b o : Nat} (h : w'.heap[b]? = w.heap[b]?) : w'.cell? ⟨b, o, none⟩ = w.cell? ⟨b, o, none⟩ := World.cell?_of_block (a := ⟨b, o, none⟩) h
theorem froz_at {w w' : World} {b o : Nat} (h : w'.heap[b]? = w.heap[b]?) : w'.frozen? ⟨b, o, none⟩ = w.frozen? ⟨b, o, none⟩ := World.frozen?_of_block (a := ⟨b, o, none⟩) h
/-- A map's box. -/
def bxG (b : Nat) (side : Int) (v : Value) : It := ⟨b, b + 1, fun w => GB w b side v, fun w w' hk h => by
  have e := hk b (Nat.le_refl _) (Nat.lt_succ_self _)
  exact ⟨(cell_at e).trans h.c0, (cell_at e).trans h.c1, (froz_at e).trans h.f0, (froz_at e).trans h.f1⟩⟩
/-- The box of a map that was handed back. -/
def bxO (b : Nat) (side : Int) (v : Value) (code : Int) : It := ⟨b, b + 1, fun w => GC w b side v code, fun w w' hk h => by
  have e := hk b (Nat.le_refl _) (Nat.lt_succ_self _)
  exact ⟨(cell_at e).trans h.c0, (cell_at e).trans h.c1, (cell_at e).trans h.c2⟩⟩
/-- A row of numbers. -/
def rwI (B hi : Nat) (v : Value) (l : List Int) : It := ⟨B, hi, fun w => OwnI 2 .i64 w B v l ∧ Lies v B hi, fun w w' hk h => ⟨ownsRow_at h.1 h.2 hk, h.2⟩⟩
theorem OwnI.lies {w : World} {base : Nat} {v : Value} {l : List Int} (h : OwnI 2 .i64 w base v l) : Lies v base w.heap.size := World.ownsRow.lt h
theorem RCh.below' {w w' : World} {A : Option Addr} {l : List Ch} (h : RCh w w.heap.size A l) (hb : Below w.heap.size w w') : RCh w' w'.heap.size A l := (h.below hb).mono hb.size
end Go.Proofs.YtoobkajilbmdhaaDoor

namespace Go.Proofs.YtoobkajilbmdhaaDoor
open Go.RowKit
set_option linter.unusedVariables false

def nmark (k : Nat) : Nd := ⟨(k : Int), (k : Int) + 1, (k : Int) + 2, (k : Int) + 3, (k : Int) + 4⟩
def marksN (k n : Nat) : List Nd := (List.range n).map fun i => nmark (k + 5 * i)
theorem marksN_length (k n : Nat) : (marksN k n).length = n := by simp [marksN]
theorem marksN_get (k n i : Nat) (h : i < (marksN k n).length) : (marksN k n)[i] = nmark (k + 5 * i) := by simp [marksN]
theorem markedN_step (l : List Nd) (k j : Nat) (hj : j < l.length) : ((marksN k l.length).take j ++ l.drop j).set j (nmark (k + 5 * j)) = (marksN k l.length).take (j + 1) ++ l.drop (j + 1) := by
  have hm : j < (marksN k l.length).length := by rw [marksN_length]; exact hj
  have hl : ((marksN k l.length).take j).length = j := by simp [marksN_length]; omega
  rw [List.set_append_right _ _ (by omega), hl, Nat.sub_self, List.drop_eq_getElem_cons hj, List.set_cons_zero, List.take_succ_eq_append_getElem hm, marksN_get, List.append_assoc]
  rfl

set_option maxRecDepth 100000 in
set_option maxHeartbeats 1000000 in
theorem markNodes (A : Option Addr) (c base k0 : Nat) (l : List Nd) (w : World) (h : OwnN w base (.slice A l.length c) l) (hl : l.length ≤ 1100000) (hk0 : k0 ≤ 1000000000) :
    Calls Tryd.prog 80 #[.slice A l.length c, .int .i64 k0] w fun e w' => e = .returned (.int .i64 ((k0 + 5 * l.length : Nat) : Int)) ∧ OwnN w' base (.slice A l.length c) (marksN k0 l.length) ∧ w.grownBy w' (Value.slice A l.length c).ownBlock ∧ w'.heap.size = w.heap.size := by
  go_enter Tryd.func80, Tryd.ntmps80
  go_wp2
  go_loopw [1, 5] (fun x i wr => ∃ j K : Nat, i = .int .i64 j ∧ x = .int .i64 K ∧ Hid (K = k0 + 5 * j) ∧ j ≤ l.length ∧ OwnN wr base (.slice A l.length c) ((marksN k0 l.length).take j ++ l.drop j) ∧ w.grownBy wr (Value.slice A l.length c).ownBlock ∧ Hid (wr.heap.size = w.heap.size)) (fun _ i _ => l.length - (intOf i).toNat)
  case atStart => exact ⟨0, k0, rfl, rfl, rfl, Nat.zero_le _, by simpa using h, ⟨rfl, rfl, rfl, Nat.le_refl _, fun _ _ _ => rfl⟩, rfl⟩
  case round =>
    obtain ⟨j, K, rfl, rfl, HK, hj, ho, hg, HZ⟩ := hrel
    have hKb : (K : Int) ≤ 2000000000 := by have := HK.out; omega
    by_cases hlt : j < l.length
    · obtain ⟨g, rfl, _, _, hcg, hfg⟩ := ho.at_ (j := j) (by simp [marksN_length]; omega)
      have HS := Lib.hid (ho.store (j := j) (by simp [marksN_length]; omega) (nmark K))
      have hf0 := hfg (j * 5)
      have hf1 := hfg (j * 5 + 1)
      have hf2 := hfg (j * 5 + 2)
      have hf3 := hfg (j * 5 + 3)
      have hf4 := hfg (j * 5 + 4)
      obtain ⟨g0, g1, g2, g3, g4⟩ := hcg
      have HG := Lib.hid hg
      clear ho h hfg hg
      go_wp2
      go_roundw
      case rel => exact ⟨j + 1, K + 5, by go_num, by go_num, (by have := HK.out; show _ = _; omega), by omega, by rw [← markedN_step l k0 j hlt, ← HK.out]; exact HS.out.1, by_trans HG.out HS.out.2, by show (World.setCell _ _ _).heap.size = _; simpa [World.setCell] using HZ.out⟩
      case measure => simp [intOf]; omega
    · have ej : j = l.length := by omega
      subst ej
      have HKE : Hid ((K : Int) = ((k0 + 5 * l.length : Nat) : Int)) := by have := HK.out; show _ = _; omega
      have HO := Lib.hid ho
      have HG := Lib.hid hg
      clear ho hg h
      go_wp2
      go_ret
      exact ⟨ret_int HKE.out, by simpa [marksN_length, List.take_of_length_le] using HO.out, HG.out, HZ.out⟩

set_option maxRecDepth 100000 in
set_option maxHeartbeats 1000000 in
theorem heldNodes (A : Option Addr) (c B k0 n : Nat) (w : World) (h : RN w B A (marksN k0 n)) (hl : n ≤ 1100000) (hk0 : k0 ≤ 1000000000) :
    Calls Tryd.prog 108 #[.slice A n c, .int .i64 k0] w fun e w' => e = .returned (.int .i64 ((k0 + 5 * n : Nat) : Int)) ∧ w = w' := by
  have H := Lib.hid h
  clear h
  go_enter Tryd.func108, Tryd.ntmps108
  go_wp2
  go_loop [1, 5] (fun x i => ∃ j K : Nat, i = .int .i64 j ∧ x = .int .i64 K ∧ Hid (K = k0 + 5 * j) ∧ j ≤ n) (fun _ i => n - (intOf i).toNat)
  case atStart => exact ⟨0, k0, rfl, rfl, rfl, Nat.zero_le _⟩
  case round =>
    obtain ⟨j, K, rfl, rfl, HK, hj⟩ := hrel
    have hKb : (K : Int) ≤ 2000000000 := by have := HK.out; omega
    by_cases hlt : j < n
    · obtain ⟨b, off, rfl, _, hc⟩ := H.out.at_ (j := j) (by rw [marksN_length]; exact hlt)
      rw [marksN_get, ← HK.out] at hc
      obtain ⟨d0, d1, d2, d3, d4⟩ := hc
      simp only [nmark] at d0 d1 d2 d3 d4
      go_wp2
      go_round
      case rel => exact ⟨j + 1, K + 5, by go_num, by go_num, (by have := HK.out; show _ = _; omega), by omega⟩
      case measure => simp [intOf]; omega
    · have ej : j = n := by omega
      subst ej
      have HKE : Hid ((K : Int) = ((k0 + 5 * j : Nat) : Int)) := by have := HK.out; show _ = _; omega
      go_wp2
      go_ret
      exact ⟨ret_int HKE.out, rfl⟩

set_option maxHeartbeats 400000 in
theorem markPool_any (A : Option Addr) (c base k0 : Nat) (l : List Nd) (w : World) (h : OwnN w base (.slice A l.length c) l) (hl : l.length ≤ 1100000) (hk0 : k0 ≤ 1000000000) :
    Calls Tryd.prog 35 #[.agg #[.slice A l.length c], .int .i64 k0] w fun e w' => e = .returned (.int .i64 ((k0 + 5 * l.length : Nat) : Int)) ∧ OwnN w' base (.slice A l.length c) (marksN k0 l.length) ∧ w.grownBy w' (Value.slice A l.length c).ownBlock := by
  have HT := Lib.hid (markNodes A c base k0 l _ (h.alloc (.cells #[.slice A l.length c] 25)) hl hk0)
  clear h
  have hbw : Below w.heap.size w (w.alloc (.cells #[.slice A l.length c] 25)) := (Below.refl _ _).alloc (Nat.le_refl _) _
  go_enter Tryd.func35, Tryd.ntmps35
  go_wp2_with fail
  refine HT.out.mono ?_
  rintro e w1 ⟨rfl, ho, hg, hz⟩
  have HO := Lib.hid ho
  have HG := Lib.hid (by_trans (below_by hbw _) hg)
  clear HT ho hg hz hbw
  go_wp2
  go_ret
  exact ⟨rfl, HO.out, HG.out⟩
set_option maxHeartbeats 400000 in
theorem markPoolOut_any (root code : Int) (A : Option Addr) (c base k0 : Nat) (l : List Nd) (w : World) (h : OwnN w base (.slice A l.length c) l) (hl : l.length ≤ 1100000) (hk0 : k0 ≤ 1000000000) :
    Calls Tryd.prog 36 #[.agg #[.slice A l.length c, .int .i64 root, .int .i64 code], .int .i64 k0] w fun e w' => e = .returned (.int .i64 ((k0 + 5 * l.length : Nat) : Int)) ∧ OwnN w' base (.slice A l.length c) (marksN k0 l.length) ∧ w.grownBy w' (Value.slice A l.length c).ownBlock := by
  have HT := Lib.hid (markPool_any A c base k0 l _ (h.alloc (.cells #[.slice A l.length c, .int .i64 root, .int .i64 code] 32)) hl hk0)
  clear h
  have hbw : Below w.heap.size w (w.alloc (.cells #[.slice A l.length c, .int .i64 root, .int .i64 code] 32)) := (Below.refl _ _).alloc (Nat.le_refl _) _
  go_enter Tryd.func36, Tryd.ntmps36
  go_wp2_with fail
  refine HT.out.mono ?_
  rintro e w1 ⟨rfl, ho, hg⟩
  have HO := Lib.hid ho
  have HG := Lib.hid (by_trans (below_by hbw _) hg)
  clear HT ho hg hbw
  go_wp2
  go_ret
  exact ⟨rfl, HO.out, HG.out⟩
set_option maxHeartbeats 400000 in
theorem heldPool_any (A : Option Addr) (c k0 n : Nat) (w : World) (h : RN w w.heap.size A (marksN k0 n)) (hl : n ≤ 1100000) (hk0 : k0 ≤ 1000000000) :
    Calls Tryd.prog 81 #[.agg #[.slice A n c], .int .i64 k0] w fun e w' => e = .returned (.int .i64 ((k0 + 5 * n : Nat) : Int)) ∧ Below w.heap.size w w' := by
  have hbw : Below w.heap.size w (w.alloc (.cells #[.slice A n c] 25)) := (Below.refl _ _).alloc (Nat.le_refl _) _
  have HT := Lib.hid (heldNodes A c _ k0 n _ (h.below hbw) hl hk0)
  clear h
  go_enter Tryd.func81, Tryd.ntmps81
  go_wp2_with fail
  refine HT.out.mono ?_
  rintro e w1 ⟨rfl, rfl⟩
  clear HT
  go_wp2
  go_ret
  exact ⟨rfl, hbw⟩
set_option maxHeartbeats 400000 in
theorem heldPoolOut_any (root code : Int) (A : Option Addr) (c k0 n : Nat) (w : World) (h : RN w w.heap.size A (marksN k0 n)) (hl : n ≤ 1100000) (hk0 : k0 ≤ 1000000000) :
    Calls Tryd.prog 37 #[.agg #[.slice A n c, .int .i64 root, .int .i64 code], .int .i64 k0] w fun e w' => e = .returned (.int .i64 ((k0 + 5 * n : Nat) : Int)) ∧ Below w.heap.size w w' := by
  have hbw : Below w.heap.size w (w.alloc (.cells #[.slice A n c, .int .i64 root, .int .i64 code] 32)) := (Below.refl _ _).alloc (Nat.le_refl _) _
  have HT := Lib.hid (heldPool_any A c k0 n _ ((h.below hbw).mono (by simp)) hl hk0)
  clear h
  go_enter Tryd.func37, Tryd.ntmps37
  go_wp2_with fail
  refine HT.out.mono ?_
  rintro e w1 ⟨rfl, hb⟩
  have hb2 : Below w.heap.size w w1 := hbw.trans (hb.mono (by simp))
  clear HT hb hbw
  go_wp2
  go_ret
  exact ⟨rfl, hb2⟩
set_option maxHeartbeats 400000 in
theorem eqPoolOut_any (root code : Int) (A A' : Option Addr) (c c' : Nat) (l : List Nd) (w : World) (h : RN w w.heap.size A l) (h' : RN w w.heap.size A' l) (hl : l.length ≤ 1000000000) :
    Calls Tryd.prog 33 #[.agg #[.slice A l.length c, .int .i64 root, .int .i64 code], .agg #[.slice A' l.length c', .int .i64 root, .int .i64 code]] w fun e w' => e = .returned (.bool true) ∧ Below w.heap.size w w' := by
  have H := Lib.hid h
  have H' := Lib.hid h'
  clear h h'
  have hbw : Below w.heap.size w ((w.alloc (.cells #[.slice A l.length c, .int .i64 root, .int .i64 code] 32)).alloc (.cells #[.slice A' l.length c', .int .i64 root, .int .i64 code] 32)) := ((Below.refl _ _).alloc (Nat.le_refl _) _).alloc (by simp) _
  have HT := Lib.hid (eqPool_any A A' c c' l _ ((H.out.below hbw).mono (by simp; omega)) ((H'.out.below hbw).mono (by simp; omega)) hl)
  go_enter Tryd.func33, Tryd.ntmps33
  go_wp2_with fail
  refine HT.out.mono ?_
  rintro e w1 ⟨rfl, hb⟩
  have hb2 : Below w.heap.size w w1 := hbw.trans (hb.mono (by simp; omega))
  obtain ⟨hc, hf⟩ := bcell hb
  clear HT H H' hb
  go_wp2
  go_ret
  exact ⟨rfl, hb2⟩
end Go.Proofs.YtoobkajilbmdhaaDoor

namespace Go.Proofs.YtoobkajilbmdhaaDoor
open Go.RowKit
set_option linter.unusedVariables false

/-- Block b holds the field of a pool. -/
structure PB1 (w : World) (b : Nat) (v : Value) : Prop where
  c0 : w.cell? ⟨b, 0, none⟩ = some v
  f0 : w.frozen? ⟨b, 0, none⟩ = false
theorem PB1.made (w : World) (v : Value) (t : TypeId) : PB1 (w.alloc (.cells #[v] t)) w.heap.size v := ⟨by simp [go_sem], by simp [go_sem]⟩
/-- A pool's box. -/
def bxP (b : Nat) (v : Value) : It := ⟨b, b + 1, fun w => PB1 w b v, fun w w' hk h => by
  have e := hk b (Nat.le_refl _) (Nat.lt_succ_self _)
  exact ⟨(cell_at e).trans h.c0, (froz_at e).trans h.f0⟩⟩
/-- A row of nodes. -/
def rwN (B hi : Nat) (v : Value) (l : List Nd) : It := ⟨B, hi, fun w => OwnN w B v l ∧ Lies v B hi, fun w w' hk h => ⟨ownsRow_at h.1 h.2 hk, h.2⟩⟩
/-- Block b holds the fields of a pool that was handed back. -/
structure PO1 (w : World) (b : Nat) (v : Value) (root code : Int) : Prop where
  c0 : w.cell? ⟨b, 0, none⟩ = some v
  c1 : w.cell? ⟨b, 1, none⟩ = some (.int .i64 root)
  c2 : w.cell? ⟨b, 2, none⟩ = some (.int .i64 code)
theorem PO1.made (w : World) (v : Value) (root code : Int) (t : TypeId) : PO1 (w.alloc (.cells #[v, .int .i64 root, .int .i64 code] t)) w.heap.size v root code := ⟨by simp [go_sem], by simp [go_sem], by simp [go_sem]⟩
def bxPO (b : Nat) (v : Value) (root code : Int) : It := ⟨b, b + 1, fun w => PO1 w b v root code, fun w w' hk h => by
  have e := hk b (Nat.le_refl _) (Nat.lt_succ_self _)
  exact ⟨(cell_at e).trans h.c0, (cell_at e).trans h.c1, (cell_at e).trans h.c2⟩⟩
theorem OwnN.lies {w : World} {base : Nat} {v : Value} {l : List Nd} (h : OwnN w base v l) : Lies v base w.heap.size := World.ownsRow.lt h
theorem RN.below' {w w' : World} {A : Option Addr} {l : List Nd} (h : RN w w.heap.size A l) (hb : Below w.heap.size w w') : RN w' w'.heap.size A l := (h.below hb).mono hb.size
end Go.Proofs.YtoobkajilbmdhaaDoor
