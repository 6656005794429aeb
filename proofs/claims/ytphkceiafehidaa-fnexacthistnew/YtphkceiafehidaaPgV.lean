/- The program's pools: a square of more than one tile is put in. -/
import Derived.Test.YtphkceiafehidaaPgU
namespace Go.Proofs.Ytphkceiafehidaa
open Go.RowKit
set_option linter.unusedVariables false

theorem SS.by_ {base p m q : Nat} {v : Value} {l : List Nd} {w w' : World} (h : SS base p m v l w) (hg : w.grownBy w' (some q)) (h1 : q ≠ p) (h2 : q ≠ m) (h3 : v.ownBlock ≠ some q) : SS base p m v l w' :=
  have hp : some p ≠ some q := fun e => h1 (by simpa using e.symm)
  have hm : some m ≠ some q := fun e => h2 (by simpa using e.symm)
  ⟨⟨hg.cell h.ps.c0 hp, (World.frozen?_of_block (a := ⟨p, 0, none⟩) (hg.block p h.ps.lt hp)).trans h.ps.f0, World.ownsRow.kept h.ps.own hg (.inr h3), h.ps.hb, Nat.lt_of_lt_of_le h.ps.lt hg.size, h.ps.ne⟩, hg.cell h.c1 hp, h.map.keep (hg.block m h.map.lt hm), h.hm, h.nm, h.nr⟩
theorem CB.by_ {base p m q : Nat} {v : Value} {bs bg bf : Nat} {A : Option Addr} {cg sn : Nat} {tiles : List Int} {w w' : World} (h : CB base p m v bs bg bf A cg sn tiles w) (hg : w.grownBy w' (some q)) (h1 : bs ≠ q) (h2 : bg ≠ q) (h3 : bf ≠ q) (h4 : base ≤ q) (h5 : base ≤ w.heap.size) : CB base p m v bs bg bf A cg sn tiles w' :=
  ⟨hg.cell h.s0 (by simpa using h1), hg.cell h.g0 (by simpa using h2), hg.cell h.g1 (by simpa using h2), hg.cell h.k0 (by simpa using h3), h.ri.keep fun k hk => hg.block k (by omega) (by simp; omega), ⟨Nat.lt_of_lt_of_le h.hs.1 hg.size, h.hs.2⟩, ⟨Nat.lt_of_lt_of_le h.hg.1 hg.size, h.hg.2⟩, ⟨Nat.lt_of_lt_of_le h.hf.1 hg.size, h.hf.2⟩⟩
theorem PG.by_ {p m q : Nat} {v v' : Value} {w0 w w' : World} (h : PG p m v v' w0 w) (hg : w.grownBy w' (some q)) (hq : w0.heap.size ≤ q) : PG p m v v' w0 w' :=
  ⟨hg.os.trans h.os, hg.tape.trans h.tape, hg.output.trans h.output, Nat.le_trans h.size hg.size, fun k hk h1 h2 h3 => (hg.block k (Nat.lt_of_lt_of_le hk h.size) (by simp; omega)).trans (h.block k hk h1 h2 h3), h.row⟩
/-- Four numbers in their box. -/
structure Q4 (w : World) (b : Nat) (a0 a1 a2 a3 : Int) : Prop where
  c0 : w.cell? ⟨b, 0, none⟩ = some (.int .i64 a0)
  c1 : w.cell? ⟨b, 1, none⟩ = some (.int .i64 a1)
  c2 : w.cell? ⟨b, 2, none⟩ = some (.int .i64 a2)
  c3 : w.cell? ⟨b, 3, none⟩ = some (.int .i64 a3)
  fz : ∀ j, w.frozen? ⟨b, j, none⟩ = false
theorem Q4.keep {w w' : World} {b : Nat} {a0 a1 a2 a3 : Int} (h : Q4 w b a0 a1 a2 a3) (hb : w'.heap[b]? = w.heap[b]?) : Q4 w' b a0 a1 a2 a3 :=
  ⟨(World.cell?_of_block (a := ⟨b, 0, none⟩) hb).trans h.c0, (World.cell?_of_block (a := ⟨b, 1, none⟩) hb).trans h.c1, (World.cell?_of_block (a := ⟨b, 2, none⟩) hb).trans h.c2, (World.cell?_of_block (a := ⟨b, 3, none⟩) hb).trans h.c3, fun j => (World.frozen?_of_block (a := ⟨b, j, none⟩) hb).trans (h.fz j)⟩
theorem Q4.set0 {w : World} {b : Nat} {a0 a1 a2 a3 : Int} (h : Q4 w b a0 a1 a2 a3) (r : Int) : Q4 (w.setCell ⟨b, 0, none⟩ (.int .i64 r)) b r a1 a2 a3 :=
  ⟨World.cell?_setCell_same _ _ _ h.c0, (World.cell?_setCell_other _ _ _ _ (by simp)).trans h.c1, (World.cell?_setCell_other _ _ _ _ (by simp)).trans h.c2, (World.cell?_setCell_other _ _ _ _ (by simp)).trans h.c3, fun j => by simpa using h.fz j⟩
theorem Q4.set1 {w : World} {b : Nat} {a0 a1 a2 a3 : Int} (h : Q4 w b a0 a1 a2 a3) (r : Int) : Q4 (w.setCell ⟨b, 1, none⟩ (.int .i64 r)) b a0 r a2 a3 :=
  ⟨(World.cell?_setCell_other _ _ _ _ (by simp)).trans h.c0, World.cell?_setCell_same _ _ _ h.c1, (World.cell?_setCell_other _ _ _ _ (by simp)).trans h.c2, (World.cell?_setCell_other _ _ _ _ (by simp)).trans h.c3, fun j => by simpa using h.fz j⟩
theorem Q4.set2 {w : World} {b : Nat} {a0 a1 a2 a3 : Int} (h : Q4 w b a0 a1 a2 a3) (r : Int) : Q4 (w.setCell ⟨b, 2, none⟩ (.int .i64 r)) b a0 a1 r a3 :=
  ⟨(World.cell?_setCell_other _ _ _ _ (by simp)).trans h.c0, (World.cell?_setCell_other _ _ _ _ (by simp)).trans h.c1, World.cell?_setCell_same _ _ _ h.c2, (World.cell?_setCell_other _ _ _ _ (by simp)).trans h.c3, fun j => by simpa using h.fz j⟩
theorem Q4.set3 {w : World} {b : Nat} {a0 a1 a2 a3 : Int} (h : Q4 w b a0 a1 a2 a3) (r : Int) : Q4 (w.setCell ⟨b, 3, none⟩ (.int .i64 r)) b a0 a1 a2 r :=
  ⟨(World.cell?_setCell_other _ _ _ _ (by simp)).trans h.c0, (World.cell?_setCell_other _ _ _ _ (by simp)).trans h.c1, (World.cell?_setCell_other _ _ _ _ (by simp)).trans h.c2, World.cell?_setCell_same _ _ _ h.c3, fun j => by simpa using h.fz j⟩

def lsF (l0 l1 l2 l3 l4 : List Nd) : Nat → List Nd
  | 0 => l0
  | 1 => l1
  | 2 => l2
  | 3 => l3
  | _ => l4
def rsF (r0 r1 r2 r3 : Nat) : Nat → Int × Int × Int × Int
  | 0 => (0, 0, 0, 0)
  | 1 => (r0, 0, 0, 0)
  | 2 => (r0, r1, 0, 0)
  | 3 => (r0, r1, r2, 0)
  | _ => (r0, r1, r2, r3)
/-- The state of the closure's loop behind i rounds. -/
structure LQ (w : World) (base p m : Nat) (v : Value) (bs bg bf : Nat) (A : Option Addr) (cg sn : Nat) (tiles : List Int) (v' : Value) (l : List Nd) (q : Int × Int × Int × Int) (wr : World) : Prop where
  ss : SS base p m v' l wr
  cb : CB base p m v' bs bg bf A cg sn tiles wr
  pg : PG p m v v' w wr
  nq : v'.ownBlock ≠ some w.heap.size
  q4 : Q4 wr w.heap.size q.1 q.2.1 q.2.2.1 q.2.2.2
  lt : w.heap.size < wr.heap.size
theorem LQ.call {w : World} {base p m : Nat} {v : Value} {bs bg bf : Nat} {A : Option Addr} {cg sn : Nat} {tiles : List Int} {v' v2 : Value} {l l2 : List Nd} {q : Int × Int × Int × Int} {wr w2 : World} (h : LQ w base p m v bs bg bf A cg sn tiles v' l q wr) (hs : SS base p m v2 l2 w2) (hg : PG p m v' v2 wr w2) (hp : p < w.heap.size) (hm : m < w.heap.size) : LQ w base p m v bs bg bf A cg sn tiles v2 l2 q w2 :=
  ⟨hs, h.cb.step hg (h.ss.base hg), h.pg.trans hg, hg.row _ h.lt h.nq, h.q4.keep (hg.block _ h.lt (by omega) (by omega) h.nq), Nat.lt_of_lt_of_le h.lt hg.size⟩
theorem LQ.store {w : World} {base p m : Nat} {v : Value} {bs bg bf : Nat} {A : Option Addr} {cg sn : Nat} {tiles : List Int} {v' : Value} {l : List Nd} {q q' : Int × Int × Int × Int} {wr : World} (h : LQ w base p m v bs bg bf A cg sn tiles v' l q wr) (j : Nat) (r : Int) (hq : Q4 (wr.setCell ⟨w.heap.size, j, none⟩ (.int .i64 r)) w.heap.size q'.1 q'.2.1 q'.2.2.1 q'.2.2.2) (hp : p < w.heap.size) (hm : m < w.heap.size) (hs : bs < w.heap.size) (hgg : bg < w.heap.size) (hf : bf < w.heap.size) (hb : base ≤ w.heap.size) : LQ w base p m v bs bg bf A cg sn tiles v' l q' (wr.setCell ⟨w.heap.size, j, none⟩ (.int .i64 r)) :=
  have hg := grown_set wr ⟨w.heap.size, j, none⟩ (.int .i64 r)
  ⟨h.ss.by_ hg (show w.heap.size ≠ p by omega) (show w.heap.size ≠ m by omega) h.nq, h.cb.by_ hg (show bs ≠ w.heap.size by omega) (show bg ≠ w.heap.size by omega) (show bf ≠ w.heap.size by omega) hb (Nat.le_trans hb (Nat.le_of_lt h.lt)), h.pg.by_ hg (Nat.le_refl _), h.nq, hq, by have := h.lt; simp; omega⟩
theorem LQ.below {w : World} {base p m : Nat} {v : Value} {bs bg bf : Nat} {A : Option Addr} {cg sn : Nat} {tiles : List Int} {v' : Value} {l : List Nd} {q : Int × Int × Int × Int} {wr w2 : World} (h : LQ w base p m v bs bg bf A cg sn tiles v' l q wr) (hb : Below wr.heap.size wr w2) (hp : p < w.heap.size) (hm : m < w.heap.size) : LQ w base p m v bs bg bf A cg sn tiles v' l q w2 := h.call (h.ss.below hb) (PG.below hb) hp hm
end Go.Proofs.Ytphkceiafehidaa
